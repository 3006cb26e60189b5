/- The program's errors: where they stand, and which code each is told as. -/
import Derived.Test.YtneiihikcnjglaaGreatDoorIsErr
import Derived.Test.YtneiihikcnjglaaGreatDoorFabStart4
namespace Go.Proofs.YtneiihikcnjglaaGreatDoor
open Go.RowKit
attribute [local go_sem ↓] Go.wp_at_zero Go.wp_at_succ
set_option linter.unusedSimpArgs false

/-- A package-level variable holds an error of errors.New's make, there. -/
structure ErrPtr (g : Nat) (a : Addr) (w : World) : Prop where
  cell : w.cell? ⟨g, 0, none⟩ = some (.iface 326 (.pointer (some a)))
  blk : ∃ c t, w.heap[a.block]? = some (.cells c t (0, 0))
theorem ErrPtr.below {g : Nat} {a : Addr} {w w' : World} (h : ErrPtr g a w) (hb : Below w.heap.size w w') : ErrPtr g a w' := by
  obtain ⟨c, t, hc⟩ := h.blk
  exact ⟨cell_below h.cell hb, c, t, (hb.block _ (fb_lt hc)).trans hc⟩
abbrev eN : Nat := 0
abbrev eF : Nat := 4
abbrev eR : Nat := 3
abbrev eS : Nat := 2
abbrev eM : Nat := 1
abbrev eL : Nat := 5
/-- All six, each its own; and package errors' variable. -/
structure Errs (aN aF aR aS aM aL : Addr) (w : World) : Prop where
  n : ErrPtr eN aN w
  f : ErrPtr eF aF w
  r : ErrPtr eR aR w
  s : ErrPtr eS aS w
  m : ErrPtr eM aM w
  l : ErrPtr eL aL w
  t : errType w
  d : [aN, aF, aR, aS, aM, aL].Nodup
theorem Errs.below {aN aF aR aS aM aL : Addr} {w w' : World} (h : Errs aN aF aR aS aM aL w) (hb : Below w.heap.size w w') : Errs aN aF aR aS aM aL w' :=
  ⟨h.n.below hb, h.f.below hb, h.r.below hb, h.s.below hb, h.m.below hb, h.l.below hb, cell_below h.t hb, h.d⟩
abbrev errV (a : Addr) : Value := .iface 326 (.pointer (some a))
theorem is_othr {g h : Nat} {a b : Addr} {w : World} (ha : ErrPtr g a w) (hb : ErrPtr h b w) (hne : a ≠ b) : Calls Tryz.prog 170 #[errV a, errV b] w fun e w' => e = .returned (.bool false) ∧ w' = w := by
  obtain ⟨c, t, hc⟩ := ha.blk
  obtain ⟨d, u, hd⟩ := hb.blk
  exact is_other a b c d t u w hne hc hd
variable {aN aF aR aS aM aL : Addr}
set_option maxRecDepth 100000 in
set_option maxHeartbeats 2000000 in
theorem why_N (w : World) (h : Errs aN aF aR aS aM aL w) : Calls Tryz.prog 115 #[errV aN] w fun e w' => e = .returned (.int .i64 1) ∧ Below w.heap.size w w' := by
  have hd := h.d
  simp only [List.nodup_cons, List.mem_cons, List.not_mem_nil, or_false, not_or, List.nodup_nil, and_true, not_false_eq_true] at hd
  have HD : Hid _ := hd
  have H0 : Hid (Errs aN aF aR aS aM aL w) := h
  clear h hd
  go_enter Tryz.func115, Tryz.ntmps115
  go_wp2_with fail
  refine (as_other aN _ _ (H0.out.below (fbelow_new _ _)).t).mono ?_
  rintro x w1 ⟨rfl, hb⟩
  have HB : Hid (Below w.heap.size w w1) := below_tr (fbelow_new _ _) hb
  have H1 : Hid (Errs aN aF aR aS aM aL w1) := H0.out.below HB.out
  clear hb H0
  have cN := H1.out.n.cell
  have cF := H1.out.f.cell
  have cR := H1.out.r.cell
  have cS := H1.out.s.cell
  have cM := H1.out.m.cell
  have cL := H1.out.l.cell
  go_wp2_with fail
  refine (is_same aN _).mono ?_
  rintro x w2 ⟨rfl, hw2⟩
  rw [hw2]
  clear hw2 w2
  go_wp2
  go_ret
  exact ⟨rfl, HB.out⟩
set_option maxRecDepth 100000 in
set_option maxHeartbeats 2000000 in
theorem why_L (w : World) (h : Errs aN aF aR aS aM aL w) : Calls Tryz.prog 115 #[errV aL] w fun e w' => e = .returned (.int .i64 6) ∧ Below w.heap.size w w' := by
  have hd := h.d
  simp only [List.nodup_cons, List.mem_cons, List.not_mem_nil, or_false, not_or, List.nodup_nil, and_true, not_false_eq_true] at hd
  have HD : Hid _ := hd
  have H0 : Hid (Errs aN aF aR aS aM aL w) := h
  clear h hd
  go_enter Tryz.func115, Tryz.ntmps115
  go_wp2_with fail
  refine (as_other aL _ _ (H0.out.below (fbelow_new _ _)).t).mono ?_
  rintro x w1 ⟨rfl, hb⟩
  have HB : Hid (Below w.heap.size w w1) := below_tr (fbelow_new _ _) hb
  have H1 : Hid (Errs aN aF aR aS aM aL w1) := H0.out.below HB.out
  clear hb H0
  have cN := H1.out.n.cell
  have cF := H1.out.f.cell
  have cR := H1.out.r.cell
  have cS := H1.out.s.cell
  have cM := H1.out.m.cell
  have cL := H1.out.l.cell
  go_wp2_with fail
  refine (is_othr H1.out.l H1.out.n (fun e => absurd e.symm (by have := HD.out; simp_all))).mono ?_
  rintro x w2 ⟨rfl, hw2⟩
  rw [hw2]
  clear hw2 w2
  go_wp2_with fail
  refine (is_othr H1.out.l H1.out.f (fun e => absurd e.symm (by have := HD.out; simp_all))).mono ?_
  rintro x w2 ⟨rfl, hw2⟩
  rw [hw2]
  clear hw2 w2
  go_wp2_with fail
  refine (is_othr H1.out.l H1.out.r (fun e => absurd e.symm (by have := HD.out; simp_all))).mono ?_
  rintro x w2 ⟨rfl, hw2⟩
  rw [hw2]
  clear hw2 w2
  go_wp2_with fail
  refine (is_othr H1.out.l H1.out.s (fun e => absurd e.symm (by have := HD.out; simp_all))).mono ?_
  rintro x w2 ⟨rfl, hw2⟩
  rw [hw2]
  clear hw2 w2
  go_wp2_with fail
  refine (is_othr H1.out.l H1.out.m (fun e => absurd e.symm (by have := HD.out; simp_all))).mono ?_
  rintro x w2 ⟨rfl, hw2⟩
  rw [hw2]
  clear hw2 w2
  go_wp2_with fail
  refine (is_same aL _).mono ?_
  rintro x w2 ⟨rfl, hw2⟩
  rw [hw2]
  clear hw2 w2
  go_wp2
  go_ret
  exact ⟨rfl, HB.out⟩
end Go.Proofs.YtneiihikcnjglaaGreatDoor
