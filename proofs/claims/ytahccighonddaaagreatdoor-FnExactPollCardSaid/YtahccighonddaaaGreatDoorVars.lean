import Derived.Test.YtahccighonddaaaGreatDoorTabs
import Derived.Stop.LaidErr
namespace Go.Proofs.YtahccighonddaaaGreatDoor
open Go.RowKit Go.ChangeShapes
theorem vars_cons {H : Type} (enc : TypeId × Value → H) {P : Program} {W : World} {n : String} {g : Nat} {ti : TypeId} {ms : Array (String × TypeId)} {x : Value} {ns : List String} {ds : List (DataW H)} {ps : List MemPlace} {sp : Nat → Bool}
    (hg : P.globalNamed n = some g) (ht : (P.globals[g]?).map (·.type) = some ti) (hi : P.underlying ti = some (.interface ms)) (h : W.var? P n = some #[x]) (ix : IsIface x) (r : DataW.TrodVars enc P W sp ns ds ps) :
    DataW.TrodVars enc P W sp (n :: ns) (tok enc x :: ds) (.cell g 0 :: ps) :=
  ⟨g,ti,#[x],1,[],ps,hg,ht,h,trod_held hi ix 0,r,rfl⟩
theorem vars_nil {H : Type} (enc : TypeId × Value → H) {P : Program} {W : World} {sp : Nat → Bool} : DataW.TrodVars enc P W sp [] [] [] := rfl
theorem var?_below {P : Program} {W W' : World} {n : String} {cs : Array Value} (h : W.var? P n = some cs) (hb : Below W.heap.size W W') : W'.var? P n = some cs := by
  unfold World.var? at h ⊢
  cases hg : P.globalNamed n with
  | none => simp [hg] at h
  | some g =>
    simp only [hg,Option.bind_some] at h ⊢
    have hlt : g < W.heap.size := by
      rcases Nat.lt_or_ge g W.heap.size with h' | h'
      · exact h'
      · simp [Array.getElem?_eq_none h'] at h
    rw [hb.block g hlt]
    exact h
theorem errStar : "*" ++ "errors.errorString" = "*errors.errorString" := by decide
theorem errRow (u : TypeId) (h : Tryz.prog.typeName? 3 u = some "*errors.errorString") : u = 310 :=
  typeName_ptr_named (nm := "errors.errorString") (by rw [errStar]; kernel_rfl) (by kernel_rfl) (by decide) u (by rw [errStar]; exact h)
theorem errCells : Tryz.prog.cellsOf 336 = 1 := by kernel_rfl
theorem strCells1 : Tryz.prog.cellsOf 9 = 1 := by kernel_rfl
def withErr (g : Nat) (text : List UInt8) (w : World) : World :=
  { w.alloc (.cells #[.string ⟨⟨text⟩⟩] 336) with heap := ((w.alloc (.cells #[.string ⟨⟨text⟩⟩] 336)).heap.modify g (rowOf #[.iface 310 (.pointer (some ⟨w.heap.size,0,none⟩))])) }
end Go.Proofs.YtahccighonddaaaGreatDoor
