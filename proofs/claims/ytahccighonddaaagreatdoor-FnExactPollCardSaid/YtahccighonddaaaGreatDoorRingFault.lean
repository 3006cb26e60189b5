import Derived.Test.YtahccighonddaaaGreatDoorIsErr
import Derived.Test.YtahccighonddaaaGreatDoorFabStart4
namespace Go.Proofs.YtahccighonddaaaGreatDoor
open Go.RowKit
attribute [local go_sem ↓] Go.wp_at_zero Go.wp_at_succ
set_option linter.unusedSimpArgs false
structure ErrPtr (g : Nat) (a : Addr) (w : World) : Prop where
  cell : w.cell? ⟨g,0,none⟩ = some (.iface 310 (.pointer (some a)))
  blk : ∃ c t,w.heap[a.block]? = some (.cells c t (0,0))
theorem ErrPtr.below {g : Nat} {a : Addr} {w w' : World} (h : ErrPtr g a w) (hb : Below w.heap.size w w') : ErrPtr g a w' := by
  obtain ⟨c,t,hc⟩ := h.blk
  exact ⟨cell_below h.cell hb,c,t,(hb.block _ (fb_lt hc)).trans hc⟩
abbrev eN : Nat := 0
abbrev eF : Nat := 3
abbrev eR : Nat := 1
abbrev eS : Nat := 4
abbrev eM : Nat := 2
abbrev eL : Nat := 5
structure Errs (aN aF aR aS aM aL : Addr) (w : World) : Prop where
  n : ErrPtr eN aN w
  f : ErrPtr eF aF w
  r : ErrPtr eR aR w
  s : ErrPtr eS aS w
  m : ErrPtr eM aM w
  l : ErrPtr eL aL w
  t : errType w
  d : [aN,aF,aR,aS,aM,aL].Nodup
theorem Errs.below {aN aF aR aS aM aL : Addr} {w w' : World} (h : Errs aN aF aR aS aM aL w) (hb : Below w.heap.size w w') : Errs aN aF aR aS aM aL w' :=
  ⟨h.n.below hb,h.f.below hb,h.r.below hb,h.s.below hb,h.m.below hb,h.l.below hb,cell_below h.t hb,h.d⟩
abbrev errV (a : Addr) : Value := .iface 310 (.pointer (some a))
theorem is_othr {g h : Nat} {a b : Addr} {w : World} (ha : ErrPtr g a w) (hb : ErrPtr h b w) (hne : a ≠ b) : Calls Tryz.prog 138 #[errV a,errV b] w fun e w' => e = .returned (.bool false) ∧ w' = w := by
  obtain ⟨c,t,hc⟩ := ha.blk
  obtain ⟨d,u,hd⟩ := hb.blk
  exact is_other a b c d t u w hne hc hd
variable {aN aF aR aS aM aL : Addr}
set_option maxRecDepth 100000 in
set_option maxHeartbeats 2000000 in
theorem why_N (w : World) (h : Errs aN aF aR aS aM aL w) : Calls Tryz.prog 88 #[errV aN] w fun e w' => e = .returned (.int .i64 1) ∧ Below w.heap.size w w' := by
  have hd := h.d
  simp only [List.nodup_cons,List.mem_cons,List.not_mem_nil,or_false,not_or,List.nodup_nil,and_true,not_false_eq_true] at hd
  have HD : Hid _ := hd
  have H0 : Hid (Errs aN aF aR aS aM aL w) := h
  clear h hd
  go_enter Tryz.func88,Tryz.ntmps88
  go_wp2_with fail
  refine (as_other aN _ _ (H0.out.below (fbelow_new _ _)).t).mono ?_
  rintro x w1 ⟨rfl,hb⟩
  have HB : Hid (Below w.heap.size w w1) := below_tr (fbelow_new _ _) hb
  have H1 : Hid (Errs aN aF aR aS aM aL w1) := H0.out.below HB.out
  clear hb H0
  have cN := H1.out.n.cell
  have cF := H1.out.f.cell
  have cR := H1.out.r.cell
  have cS := H1.out.s.cell
  have cM := H1.out.m.cell
  have cL := H1.out.l.cell
  go_wp2_with fail
  refine (is_same aN _).mono ?_
  rintro x w2 ⟨rfl,hw2⟩
  rw [hw2]
  clear hw2 w2
  go_wp2
  go_ret
  exact ⟨rfl,HB.out⟩
set_option maxRecDepth 100000 in
set_option maxHeartbeats 2000000 in
theorem why_R (w : World) (h : Errs aN aF aR aS aM aL w) : Calls Tryz.prog 88 #[errV aR] w fun e w' => e = .returned (.int .i64 8) ∧ Below w.heap.size w w' := by
  have hd := h.d
  simp only [List.nodup_cons,List.mem_cons,List.not_mem_nil,or_false,not_or,List.nodup_nil,and_true,not_false_eq_true] at hd
  have HD : Hid _ := hd
  have H0 : Hid (Errs aN aF aR aS aM aL w) := h
  clear h hd
  go_enter Tryz.func88,Tryz.ntmps88
  go_wp2_with fail
  refine (as_other aR _ _ (H0.out.below (fbelow_new _ _)).t).mono ?_
  rintro x w1 ⟨rfl,hb⟩
  have HB : Hid (Below w.heap.size w w1) := below_tr (fbelow_new _ _) hb
  have H1 : Hid (Errs aN aF aR aS aM aL w1) := H0.out.below HB.out
  clear hb H0
  have cN := H1.out.n.cell
  have cF := H1.out.f.cell
  have cR := H1.out.r.cell
  have cS := H1.out.s.cell
  have cM := H1.out.m.cell
  have cL := H1.out.l.cell
  go_wp2_with fail
  refine (is_othr H1.out.r H1.out.n (fun e => absurd e.symm (by have := HD.out; simp_all))).mono ?_
  rintro x w2 ⟨rfl,hw2⟩
  rw [hw2]
  clear hw2 w2
  go_wp2_with fail
  refine (is_othr H1.out.r H1.out.f (fun e => absurd e.symm (by have := HD.out; simp_all))).mono ?_
  rintro x w2 ⟨rfl,hw2⟩
  rw [hw2]
  clear hw2 w2
  go_wp2_with fail
  refine (is_same aR _).mono ?_
  rintro x w2 ⟨rfl,hw2⟩
  rw [hw2]
  clear hw2 w2
  go_wp2
  go_ret
  exact ⟨rfl,HB.out⟩
end Go.Proofs.YtahccighonddaaaGreatDoor
namespace Go.Proofs.YtahccighonddaaaGreatDoor
open Go.RowKit Go.Extern.Stop Go.Stop Go.Extern
variable {aN aF aR aS aM aL : Addr}
theorem typeOfF (v : Value) (w : World) : (ReflectliteType.typeOf #[.iface 181 v]).run Tryz.prog w = .ok (.iface 263 (.agg #[.pointer (some ⟨9,181,none⟩)])) w := by kernel_rfl
theorem assignableF (w : World) : (ReflectliteType.relation "AssignableTo" ReflectliteType.assignableTo #[.agg #[.pointer (some ⟨9,181,none⟩)],.iface 263 (.agg #[.pointer (some ⟨9,181,none⟩)])]).run Tryz.prog w = .ok (.bool true) w := by kernel_rfl
theorem valueOfF (c : Int) (w : World) : (ReflectliteValue.unpack (.iface 181 (.agg #[.int .i64 c]))).run Tryz.prog w
    = .ok (.agg #[.pointer (some ⟨9,181,none⟩),.pointer (some ⟨w.heap.size,0,none⟩),.int .u64 153]) (w.alloc (.cells #[.int .i64 c] 181)) := by kernel_rfl
theorem elemOfF (w : World) : (Rtype.elem? 183).run Tryz.prog w = .ok (some 181) w := by kernel_rfl
theorem mkF (p : Addr) (w : World) : (ReflectliteValue.mk 181 p ReflectliteValue.flagAddr).run Tryz.prog w = .ok (.agg #[.pointer (some ⟨9,181,none⟩),.pointer (some p),.int .u64 409]) w := by kernel_rfl
theorem elemVF (a p : Addr) (W : World) (ha : W.cell? a = some (.pointer (some p))) :
    (ReflectliteValue.method (ReflectliteValue.valueError "reflectlite.Value.Elem" 0) ReflectliteValue.elem #[.agg #[.pointer (some ⟨9,183,none⟩),.pointer (some a),.int .u64 150]]).run Tryz.prog W
      = .ok (.agg #[.pointer (some ⟨9,181,none⟩),.pointer (some p),.int .u64 409]) W := by
  show Sem.run Tryz.prog (Bind.bind (ReflectliteValue.parts (.agg #[.pointer (some ⟨9,183,none⟩),.pointer (some a),.int .u64 150])) _) W = _
  simp only [Sem.run_bind,partsR,Result.andThen]
  simp [ReflectliteValue.elem,loadVar,isAgg,underlying,Tryz.underlying183,ha,Result.andThen,elemOfF,mkF]
theorem partsFa (a : Addr) (w : World) : (ReflectliteValue.parts (.agg #[.pointer (some ⟨9,181,none⟩),.pointer (some a),.int .u64 409])).run Tryz.prog w = .ok (some (181,a,409)) w := by kernel_rfl
theorem partsF (a : Addr) (w : World) : (ReflectliteValue.parts (.agg #[.pointer (some ⟨9,181,none⟩),.pointer (some a),.int .u64 153])).run Tryz.prog w = .ok (some (181,a,153)) w := by kernel_rfl
theorem directF (w : World) : (Rtype.directlyAssignable 181 181).run Tryz.prog w = .ok true w := by kernel_rfl
theorem setF (ta b : Addr) (c : Int) (old : Value) (W : World) (hb : W.cell? b = some (.int .i64 c)) (ht : W.cell? ta = some old) (hf : W.frozen? ta = false) :
    (ReflectliteValue.set #[.agg #[.pointer (some ⟨9,181,none⟩),.pointer (some ta),.int .u64 409],.agg #[.pointer (some ⟨9,181,none⟩),.pointer (some b),.int .u64 153]]).run Tryz.prog W
      = .ok (.tuple #[]) (W.setCell ta (.int .i64 c)) := by
  show Sem.run Tryz.prog (Bind.bind (ReflectliteValue.parts (.agg #[.pointer (some ⟨9,181,none⟩),.pointer (some ta),.int .u64 409])) _) W = _
  simp only [Sem.run_bind,partsFa,Result.andThen]
  erw [partsF]
  simp [ReflectliteValue.flagAddr,loadVar,loadCells,loadCellsFrom,hb,Result.andThen,directF,storeVar,Value.cells,storeCells,Addr.add]
  rw [run_store Tryz.prog W ta _ _ (by rfl)]
  simp [ht,hf]
set_option maxHeartbeats 4000000 in
theorem as_hitF (c : Int) (t : Addr) (old : Value) (w : World) (hg : w.cell? ⟨6,0,none⟩ = some (.iface 263 (.agg #[.pointer (some ⟨9,77,none⟩)]))) (ht0 : w.cell? t = some old) (hf0 : w.frozen? t = false) :
    Calls Tryz.prog 137 #[.iface 181 (.agg #[.int .i64 c]),.iface 183 (.pointer (some t))] w fun ev w' => ev = .returned (.bool true) ∧ w' = ((((w.alloc (.cells #[.pointer (some t)] 183)).alloc (.cells #[.pointer (some ⟨9,183,none⟩),.pointer (some ⟨w.heap.size,0,none⟩),.int .u64 150] 227)).alloc (.cells #[.pointer (some ⟨9,183,none⟩),.pointer (some ⟨w.heap.size,0,none⟩),.int .u64 150] 227)).alloc (.cells #[.int .i64 c] 181)).setCell t (.int .i64 c) := by
  have h6 := @run_callFunc_extern Tryz.prog 191 _ (fun args => ReflectliteValue.unpack (args.getD 0 (.tuple #[]))) Tryz.func191 (by kernel_rfl) (by kernel_rfl) (by kernel_rfl) (by kernel_rfl)
  have h7 := @run_callFunc_extern Tryz.prog 192 _ (ReflectliteValue.methodAny (ReflectliteValue.valueError "reflectlite.Value.Type" 0) (fun t _ _ _ => ReflectliteType.toType t)) Tryz.func192 (by kernel_rfl) (by kernel_rfl) (by kernel_rfl) (by kernel_rfl)
  have h8 := @run_callFunc_extern Tryz.prog 193 _ (ReflectliteValue.method (ReflectliteValue.valueError "reflectlite.Value.IsNil" 0) ReflectliteValue.isNil) Tryz.func193 (by kernel_rfl) (by kernel_rfl) (by kernel_rfl) (by kernel_rfl)
  have h27 := @run_callFunc_extern Tryz.prog 279 _ (ReflectliteType.abiMethod fun t => do pure (.int .u8 (← Rtype.kind t))) Tryz.func279 (by kernel_rfl) (by kernel_rfl) (by kernel_rfl) (by kernel_rfl)
  have h37 := @run_callFunc_extern Tryz.prog 294 _ (ReflectliteType.method ReflectliteType.elem) Tryz.func294 (by kernel_rfl) (by kernel_rfl) (by kernel_rfl) (by kernel_rfl)
  have h38 := @run_callFunc_extern Tryz.prog 295 _ (ReflectliteType.relation "Implements" ReflectliteType.implements_) Tryz.func295 (by kernel_rfl) (by kernel_rfl) (by kernel_rfl) (by kernel_rfl)
  have h10 := @run_callFunc_extern Tryz.prog 195 _ ReflectliteType.typeOf Tryz.func195 (by kernel_rfl) (by kernel_rfl) (by kernel_rfl) (by kernel_rfl)
  have h35 := @run_callFunc_extern Tryz.prog 292 _ (ReflectliteType.relation "AssignableTo" ReflectliteType.assignableTo) Tryz.func292 (by kernel_rfl) (by kernel_rfl) (by kernel_rfl) (by kernel_rfl)
  have h11 := @run_callFunc_extern Tryz.prog 220 _ (ReflectliteValue.method (ReflectliteValue.valueError "reflectlite.Value.Elem" 0) ReflectliteValue.elem) Tryz.func220 (by kernel_rfl) (by kernel_rfl) (by kernel_rfl) (by kernel_rfl)
  have h12 := @run_callFunc_extern Tryz.prog 221 _ ReflectliteValue.set Tryz.func221 (by kernel_rfl) (by kernel_rfl) (by kernel_rfl) (by kernel_rfl)
  have tO := typeOfF
  have mA := methodAssignableToR
  have aE := assignableF
  have vE := valueOfF
  have f6 := valueOfR
  have f7 := typeR
  have mK := methodKindR
  have mE := methodElemR
  have mI := methodImplementsR
  have kP := kindR
  have kE := kindRE
  have eP := elemR
  have iE := implementsR
  have n8 := isNilR ⟨w.heap.size,0,none⟩ t ((w.alloc (.cells #[.pointer (some t)] 183)).alloc (.cells #[.pointer (some ⟨9,183,none⟩),.pointer (some ⟨w.heap.size,0,none⟩),.int .u64 150] 227)) (by simp)
  have hlt : 6 < w.heap.size := World.block_lt_of_cell? w ⟨6,0,none⟩ hg
  have hg2 : ((w.alloc (.cells #[.pointer (some t)] 183)).alloc (.cells #[.pointer (some ⟨9,183,none⟩),.pointer (some ⟨w.heap.size,0,none⟩),.int .u64 150] 227)).cell? ⟨6,0,none⟩ = some (.iface 263 (.agg #[.pointer (some ⟨9,77,none⟩)])) := by
    rw [World.cell?_alloc_lt _ _ ⟨6,0,none⟩ (by simp; omega),World.cell?_alloc_lt _ _ ⟨6,0,none⟩ hlt]; exact hg
  have htl : t.block < w.heap.size := by
    rcases Nat.lt_or_ge t.block w.heap.size with h | h
    · exact h
    · simp [World.cell?,Array.getElem?_eq_none h] at ht0
  have el := elemVF ⟨w.heap.size,0,none⟩ t (((w.alloc (.cells #[.pointer (some t)] 183)).alloc (.cells #[.pointer (some ⟨9,183,none⟩),.pointer (some ⟨w.heap.size,0,none⟩),.int .u64 150] 227)).alloc (.cells #[.pointer (some ⟨9,183,none⟩),.pointer (some ⟨w.heap.size,0,none⟩),.int .u64 150] 227)) (by rw [World.cell?_alloc_lt _ _ ⟨w.heap.size,0,none⟩ (by simp; omega)]; simp)
  have st := setF t ⟨w.heap.size + 1 + 1 + 1,0,none⟩ c old ((((w.alloc (.cells #[.pointer (some t)] 183)).alloc (.cells #[.pointer (some ⟨9,183,none⟩),.pointer (some ⟨w.heap.size,0,none⟩),.int .u64 150] 227)).alloc (.cells #[.pointer (some ⟨9,183,none⟩),.pointer (some ⟨w.heap.size,0,none⟩),.int .u64 150] 227)).alloc (.cells #[.int .i64 c] 181))
    (by rw [World.cell?_alloc_at _ _ _ _ (by simp)]; rfl)
    (by rw [World.cell?_alloc_lt _ _ t (by simp; omega),World.cell?_alloc_lt _ _ t (by simp; omega),World.cell?_alloc_lt _ _ t (by simp; omega),World.cell?_alloc_lt _ _ t htl]; exact ht0)
    (by rw [World.frozen?_alloc_old _ _ t (by simp; omega),World.frozen?_alloc_old _ _ t (by simp; omega),World.frozen?_alloc_old _ _ t (by simp; omega),World.frozen?_alloc_old _ _ t (Nat.ne_of_lt htl)]; exact hf0)
  go_enter Tryz.func137,Tryz.ntmps137
  go_wp2
  refine wp_loop_rounds 1 ?_
  rw [rounds_succ]
  go_wp2
  go_ret
  exact ⟨rfl,rfl⟩
abbrev faultV (c : Int) : Value := .iface 181 (.agg #[.int .i64 c])
set_option maxRecDepth 100000 in
set_option maxHeartbeats 2000000 in
theorem why_ring (c : Int) (w : World) (h : Errs aN aF aR aS aM aL w) : Calls Tryz.prog 88 #[faultV c] w fun e w' => e = .returned (.int .i64 c) ∧ Below w.heap.size w w' := by
  have H0 : Hid (Errs aN aF aR aS aM aL w) := h
  clear h
  go_enter Tryz.func88,Tryz.ntmps88
  go_wp2_with fail
  refine (as_hitF c ⟨w.heap.size,0,none⟩ (.int .i64 0) _ (H0.out.below (fbelow_new _ _)).t (by simp) (by simp)).mono ?_
  rintro x w1 ⟨rfl,rfl⟩
  go_wp2
  go_ret
  exact ⟨rfl,(((((Below.refl _ _).alloc (Nat.le_refl _) _).alloc (by simp) _).alloc (by simp; omega) _).alloc (by simp; omega) _).alloc (by simp; omega) _⟩
end Go.Proofs.YtahccighonddaaaGreatDoor
