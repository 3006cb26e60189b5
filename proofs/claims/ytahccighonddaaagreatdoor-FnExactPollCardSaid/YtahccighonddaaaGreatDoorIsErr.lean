import Derived.Test.YtahccighonddaaaGreatDoorTextOut
import Derived.LaidEql
import Derived.Stop.Asserts
import Derived.RowKitTokens
import Derived.Below
namespace Go.Proofs.YtahccighonddaaaGreatDoor
open Go.RowKit Go.Extern.Stop Go.Stop Go.Extern
theorem e_typeOf (v : Value) (w : World) : (ReflectliteType.typeOf #[.iface 310 v]).run Tryz.prog w = .ok (.iface 263 (.agg #[.pointer (some ⟨9,310,none⟩)])) w := by kernel_rfl
theorem e_comparable (w : World) : (callFunc 293 #[.agg #[.pointer (some ⟨9,310,none⟩)]]).run Tryz.prog w = .ok (.value (.bool true)) w := by kernel_rfl
theorem e_methodComparable (v : Value) (w : World) : (Go.method 448 263 v "Comparable").run Tryz.prog w = .ok (293,v) w := by kernel_rfl
theorem e_comp : (Tryz.prog.info? 310).map (·.comparable) = some true := by kernel_rfl
theorem e_size : (Tryz.prog.info? 336).map (·.size) = some 1 := by kernel_rfl
theorem e_noIs (v : Value) (xT : TypeId) (w : World) : (Instr.typeAssert (.iface 310 v) xT 275 true).run Tryz.prog w = .ok (.tuple #[.nilIface,.bool false]) w := run_typeAssert_lacksB Tryz.underlying275 (by kernel_rfl) (by kernel_rfl) v xT w
theorem e_noUnwrap (v : Value) (xT : TypeId) (w : World) : (Instr.typeAssert (.iface 310 v) xT 270 true).run Tryz.prog w = .ok (.tuple #[.nilIface,.bool false]) w := run_typeAssert_lacksB Tryz.underlying270 (by kernel_rfl) (by kernel_rfl) v xT w
theorem e_noUnwraps (v : Value) (xT : TypeId) (w : World) : (Instr.typeAssert (.iface 310 v) xT 272 true).run Tryz.prog w = .ok (.tuple #[.nilIface,.bool false]) w := run_typeAssert_lacksB Tryz.underlying272 (by kernel_rfl) (by kernel_rfl) v xT w
theorem e_noAs (v : Value) (xT : TypeId) (w : World) : (Instr.typeAssert (.iface 310 v) xT 267 true).run Tryz.prog w = .ok (.tuple #[.nilIface,.bool false]) w := run_typeAssert_lacksB Tryz.underlying267 (by kernel_rfl) (by kernel_rfl) v xT w
theorem is_same (a : Addr) (w : World) :
    Calls Tryz.prog 138 #[.iface 310 (.pointer (some a)),.iface 310 (.pointer (some a))] w fun e w' => e = .returned (.bool true) ∧ w' = w := by
  obtain ⟨i,hi,hcmp⟩ := Option.map_eq_some_iff.1 e_comp
  obtain ⟨j,hj,hjs⟩ := Option.map_eq_some_iff.1 e_size
  have h8 := @run_callFunc_extern Tryz.prog 195 _ Extern.ReflectliteType.typeOf Tryz.func195 (by kernel_rfl) (by kernel_rfl) (by kernel_rfl) (by kernel_rfl)
  have h32 := e_comparable
  have tT := e_typeOf
  have mR := e_methodComparable
  have heq := run_eql_iface_ptr_same (P := Tryz.prog) w a Tryz.underlying77 Tryz.underlying310 hi hcmp hj
  go_enter Tryz.func138,Tryz.ntmps138
  go_wp2
  refine wp_loop_rounds 1 ?_
  rw [rounds_succ]
  go_wp2
  go_ret
  exact ⟨rfl,rfl⟩
theorem is_other (a b : Addr) (ca cb : Array Value) (ta tb : TypeId) (w : World) (hne : a ≠ b) (ha : w.heap[a.block]? = some (.cells ca ta (0,0))) (hb : w.heap[b.block]? = some (.cells cb tb (0,0))) :
    Calls Tryz.prog 138 #[.iface 310 (.pointer (some a)),.iface 310 (.pointer (some b))] w fun e w' => e = .returned (.bool false) ∧ w' = w := by
  obtain ⟨i,hi,hcmp⟩ := Option.map_eq_some_iff.1 e_comp
  obtain ⟨j,hj,hjs⟩ := Option.map_eq_some_iff.1 e_size
  have h8 := @run_callFunc_extern Tryz.prog 195 _ Extern.ReflectliteType.typeOf Tryz.func195 (by kernel_rfl) (by kernel_rfl) (by kernel_rfl) (by kernel_rfl)
  have h32 := e_comparable
  have tT := e_typeOf
  have mR := e_methodComparable
  have nE := e_noIs
  have uE := e_noUnwrap
  have vE := e_noUnwraps
  have heq := run_eql_iface_ptr_other (P := Tryz.prog) w Tryz.underlying77 Tryz.underlying310 hi hcmp hj (by rw [hjs]; decide) hne ha hb
  go_enter Tryz.func138,Tryz.ntmps138
  go_wp2
  refine wp_loop_rounds 1 ?_
  rw [rounds_succ]
  go_wp2
  go_ret
  exact ⟨rfl,rfl⟩
theorem valueOfR (t : Addr) (w : World) : (ReflectliteValue.unpack (.iface 183 (.pointer (some t)))).run Tryz.prog w
    = .ok (.agg #[.pointer (some ⟨9,183,none⟩),.pointer (some ⟨w.heap.size,0,none⟩),.int .u64 150]) (w.alloc (.cells #[.pointer (some t)] 183)) := by kernel_rfl
theorem typeR (a : Addr) (w : World) : (ReflectliteValue.methodAny (ReflectliteValue.valueError "reflectlite.Value.Type" 0) (fun t _ _ _ => ReflectliteType.toType t) #[.agg #[.pointer (some ⟨9,183,none⟩),.pointer (some a),.int .u64 150]]).run Tryz.prog w
    = .ok (.iface 263 (.agg #[.pointer (some ⟨9,183,none⟩)])) w := by kernel_rfl
theorem methodKindR (h : Value) (w : World) : (Go.method 448 263 (.agg #[h]) "Kind").run Tryz.prog w = .ok (279,h) w := by kernel_rfl
theorem kindR (w : World) : ((ReflectliteType.abiMethod fun t => (fun a : Nat => Value.int IntKind.u8 (a : Int)) <$> Rtype.kind t) #[.pointer (some ⟨9,183,none⟩)]).run Tryz.prog w = .ok (.int .u8 22) w := by kernel_rfl
theorem kindRE (w : World) : ((ReflectliteType.abiMethod fun t => (fun a : Nat => Value.int IntKind.u8 (a : Int)) <$> Rtype.kind t) #[.pointer (some ⟨9,181,none⟩)]).run Tryz.prog w = .ok (.int .u8 25) w := by kernel_rfl
theorem partsR (a : Addr) (w : World) : (ReflectliteValue.parts (.agg #[.pointer (some ⟨9,183,none⟩),.pointer (some a),.int .u64 150])).run Tryz.prog w = .ok (some (183,a,150)) w := by kernel_rfl
theorem isNilR (a p : Addr) (W : World) (ha : W.cell? a = some (.pointer (some p))) :
    (ReflectliteValue.method (ReflectliteValue.valueError "reflectlite.Value.IsNil" 0) ReflectliteValue.isNil #[.agg #[.pointer (some ⟨9,183,none⟩),.pointer (some a),.int .u64 150]]).run Tryz.prog W = .ok (.bool false) W := by
  show Sem.run Tryz.prog (Bind.bind (ReflectliteValue.parts (.agg #[.pointer (some ⟨9,183,none⟩),.pointer (some a),.int .u64 150])) _) W = _
  simp only [Sem.run_bind,partsR,Result.andThen]
  simp [ReflectliteValue.isNil,loadVar,isAgg,underlying,Tryz.underlying183,ha,Result.andThen]
theorem methodElemR (h : Value) (w : World) : (Go.method 448 263 (.agg #[h]) "Elem").run Tryz.prog w = .ok (294,.agg #[h]) w := by kernel_rfl
theorem methodImplementsR (h : Value) (w : World) : (Go.method 448 263 (.agg #[h]) "Implements").run Tryz.prog w = .ok (295,.agg #[h]) w := by kernel_rfl
theorem methodAssignableToR (h : Value) (w : World) : (Go.method 448 263 (.agg #[h]) "AssignableTo").run Tryz.prog w = .ok (292,.agg #[h]) w := by kernel_rfl
theorem elemR (w : World) : (ReflectliteType.method ReflectliteType.elem #[.agg #[.pointer (some ⟨9,183,none⟩)]]).run Tryz.prog w = .ok (.iface 263 (.agg #[.pointer (some ⟨9,181,none⟩)])) w := by kernel_rfl
theorem implementsR (w : World) : (ReflectliteType.relation "Implements" ReflectliteType.implements_ #[.agg #[.pointer (some ⟨9,181,none⟩)],.iface 263 (.agg #[.pointer (some ⟨9,77,none⟩)])]).run Tryz.prog w = .ok (.bool true) w := by kernel_rfl
theorem assignableR (w : World) : (ReflectliteType.relation "AssignableTo" ReflectliteType.assignableTo #[.agg #[.pointer (some ⟨9,310,none⟩)],.iface 263 (.agg #[.pointer (some ⟨9,181,none⟩)])]).run Tryz.prog w = .ok (.bool false) w := by kernel_rfl
def errType (w : World) : Prop := w.cell? ⟨6,0,none⟩ = some (.iface 263 (.agg #[.pointer (some ⟨9,77,none⟩)]))
set_option maxHeartbeats 1000000 in
theorem as_other (a t : Addr) (w : World) (hg : errType w) :
    Calls Tryz.prog 137 #[.iface 310 (.pointer (some a)),.iface 183 (.pointer (some t))] w fun ev w' => ev = .returned (.bool false) ∧ Below w.heap.size w w' := by
  have h6 := @run_callFunc_extern Tryz.prog 191 _ (fun args => ReflectliteValue.unpack (args.getD 0 (.tuple #[]))) Tryz.func191 (by kernel_rfl) (by kernel_rfl) (by kernel_rfl) (by kernel_rfl)
  have h7 := @run_callFunc_extern Tryz.prog 192 _ (ReflectliteValue.methodAny (ReflectliteValue.valueError "reflectlite.Value.Type" 0) (fun t _ _ _ => ReflectliteType.toType t)) Tryz.func192 (by kernel_rfl) (by kernel_rfl) (by kernel_rfl) (by kernel_rfl)
  have h8 := @run_callFunc_extern Tryz.prog 193 _ (ReflectliteValue.method (ReflectliteValue.valueError "reflectlite.Value.IsNil" 0) ReflectliteValue.isNil) Tryz.func193 (by kernel_rfl) (by kernel_rfl) (by kernel_rfl) (by kernel_rfl)
  have h27 := @run_callFunc_extern Tryz.prog 279 _ (ReflectliteType.abiMethod fun t => do pure (.int .u8 (← Rtype.kind t))) Tryz.func279 (by kernel_rfl) (by kernel_rfl) (by kernel_rfl) (by kernel_rfl)
  have h37 := @run_callFunc_extern Tryz.prog 294 _ (ReflectliteType.method ReflectliteType.elem) Tryz.func294 (by kernel_rfl) (by kernel_rfl) (by kernel_rfl) (by kernel_rfl)
  have h38 := @run_callFunc_extern Tryz.prog 295 _ (ReflectliteType.relation "Implements" ReflectliteType.implements_) Tryz.func295 (by kernel_rfl) (by kernel_rfl) (by kernel_rfl) (by kernel_rfl)
  have h10 := @run_callFunc_extern Tryz.prog 195 _ ReflectliteType.typeOf Tryz.func195 (by kernel_rfl) (by kernel_rfl) (by kernel_rfl) (by kernel_rfl)
  have h35 := @run_callFunc_extern Tryz.prog 292 _ (ReflectliteType.relation "AssignableTo" ReflectliteType.assignableTo) Tryz.func292 (by kernel_rfl) (by kernel_rfl) (by kernel_rfl) (by kernel_rfl)
  have tT := e_typeOf
  have nE := e_noAs
  have uE := e_noUnwrap
  have vE := e_noUnwraps
  have mA := methodAssignableToR
  have aE := assignableR
  have f6 := valueOfR
  have f7 := typeR
  have mK := methodKindR
  have mE := methodElemR
  have mI := methodImplementsR
  have kP := kindR
  have kE := kindRE
  have eP := elemR
  have iE := implementsR
  have n8 := isNilR ⟨w.heap.size,0,none⟩ t ((w.alloc (.cells #[.pointer (some t)] 183)).alloc (.cells #[.pointer (some ⟨9,183,none⟩),.pointer (some ⟨w.heap.size,0,none⟩),.int .u64 150] 227)) (by simp)
  have hg' : w.cell? ⟨6,0,none⟩ = some (.iface 263 (.agg #[.pointer (some ⟨9,77,none⟩)])) := hg
  have hlt : 6 < w.heap.size := World.block_lt_of_cell? w ⟨6,0,none⟩ hg'
  have hg2 : ((w.alloc (.cells #[.pointer (some t)] 183)).alloc (.cells #[.pointer (some ⟨9,183,none⟩),.pointer (some ⟨w.heap.size,0,none⟩),.int .u64 150] 227)).cell? ⟨6,0,none⟩ = some (.iface 263 (.agg #[.pointer (some ⟨9,77,none⟩)])) := by
    rw [World.cell?_alloc_lt _ _ ⟨6,0,none⟩ (by simp; omega),World.cell?_alloc_lt _ _ ⟨6,0,none⟩ hlt]; exact hg'
  have HB : Hid (Below w.heap.size w w) := Below.refl _ _
  clear hg
  go_enter Tryz.func137,Tryz.ntmps137
  go_wp2
  refine wp_loop_rounds 1 ?_
  rw [rounds_succ]
  go_wp2
  go_ret
  refine ⟨rfl,?_⟩
  repeat (first | exact HB.out | (refine Below.alloc ?_ (by simp; omega) _) | (refine Below.alloc ?_ (by simp) _))
end Go.Proofs.YtahccighonddaaaGreatDoor
