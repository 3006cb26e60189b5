import Derived.Test.YtahccighonddaaaGreatDoorIsErr
import Derived.Test.YtahccighonddaaaGreatDoorFabStart4
namespace Go.Proofs.YtahccighonddaaaGreatDoor
open Go.RowKit
attribute [local go_sem ↓] Go.wp_at_zero Go.wp_at_succ
set_option linter.unusedSimpArgs false
structure ErrPtr (g : Nat) (a : Addr) (w : World) : Prop where
  cell : w.cell? ⟨g, 0, none⟩ = some (.iface 310 (.pointer (some a)))
  blk : ∃ c t, w.heap[a.block]? = some (.cells c t (0, 0))
theorem ErrPtr.below {g : Nat} {a : Addr} {w w' : World} (h : ErrPtr g a w) (hb : Below w.heap.size w w') : ErrPtr g a w' := by
  obtain ⟨c, t, hc⟩ := h.blk
  exact ⟨cell_below h.cell hb, c, t, (hb.block _ (fb_lt hc)).trans hc⟩
abbrev eN : Nat := 0
abbrev eF : Nat := 3
abbrev eR : Nat := 1
abbrev eS : Nat := 4
abbrev eM : Nat := 2
abbrev eL : Nat := 5
structure Errs (aN aF aR aS aM aL : Addr) (w : World) : Prop where
  n : ErrPtr eN aN w
  f : ErrPtr eF aF w
  r : ErrPtr eR aR w
  s : ErrPtr eS aS w
  m : ErrPtr eM aM w
  l : ErrPtr eL aL w
  t : errType w
  d : [aN, aF, aR, aS, aM, aL].Nodup
theorem Errs.below {aN aF aR aS aM aL : Addr} {w w' : World} (h : Errs aN aF aR aS aM aL w) (hb : Below w.heap.size w w') : Errs aN aF aR aS aM aL w' :=
  ⟨h.n.below hb, h.f.below hb, h.r.below hb, h.s.below hb, h.m.below hb, h.l.below hb, cell_below h.t hb, h.d⟩
abbrev errV (a : Addr) : Value := .iface 310 (.pointer (some a))
theorem is_othr {g h : Nat} {a b : Addr} {w : World} (ha : ErrPtr g a w) (hb : ErrPtr h b w) (hne : a ≠ b) : Calls Tryz.prog 138 #[errV a, errV b] w fun e w' => e = .returned (.bool false) ∧ w' = w := by
  obtain ⟨c, t, hc⟩ := ha.blk
  obtain ⟨d, u, hd⟩ := hb.blk
  exact is_other a b c d t u w hne hc hd
variable {aN aF aR aS aM aL : Addr}
set_option maxRecDepth 100000 in
set_option maxHeartbeats 2000000 in
theorem why_N (w : World) (h : Errs aN aF aR aS aM aL w) : Calls Tryz.prog 88 #[errV aN] w fun e w' => e = .returned (.int .i64 1) ∧ Below w.heap.size w w' := by
  have hd := h.d
  simp only [List.nodup_cons, List.mem_cons, List.not_mem_nil, or_false, not_or, List.nodup_nil, and_true, not_false_eq_true] at hd
  have HD : Hid _ := hd
  have H0 : Hid (Errs aN aF aR aS aM aL w) := h
  clear h hd
  go_enter Tryz.func88, Tryz.ntmps88
  go_wp2_with fail
  refine (as_other aN _ _ (H0.out.below (fbelow_new _ _)).t).mono ?_
  rintro x w1 ⟨rfl, hb⟩
  have HB : Hid (Below w.heap.size w w1) := below_tr (fbelow_new _ _) hb
  have H1 : Hid (Errs aN aF aR aS aM aL w1) := H0.out.below HB.out
  clear hb H0
  have cN := H1.out.n.cell
  have cF := H1.out.f.cell
  have cR := H1.out.r.cell
  have cS := H1.out.s.cell
  have cM := H1.out.m.cell
  have cL := H1.out.l.cell
  go_wp2_with fail
  refine (is_same aN _).mono ?_
  rintro x w2 ⟨rfl, hw2⟩
  rw [hw2]
  clear hw2 w2
  go_wp2
  go_ret
  exact ⟨rfl, HB.out⟩
set_option maxRecDepth 100000 in
set_option maxHeartbeats 2000000 in
theorem why_F (w : World) (h : Errs aN aF aR aS aM aL w) : Calls Tryz.prog 88 #[errV aF] w fun e w' => e = .returned (.int .i64 11) ∧ Below w.heap.size w w' := by
  have hd := h.d
  simp only [List.nodup_cons, List.mem_cons, List.not_mem_nil, or_false, not_or, List.nodup_nil, and_true, not_false_eq_true] at hd
  have HD : Hid _ := hd
  have H0 : Hid (Errs aN aF aR aS aM aL w) := h
  clear h hd
  go_enter Tryz.func88, Tryz.ntmps88
  go_wp2_with fail
  refine (as_other aF _ _ (H0.out.below (fbelow_new _ _)).t).mono ?_
  rintro x w1 ⟨rfl, hb⟩
  have HB : Hid (Below w.heap.size w w1) := below_tr (fbelow_new _ _) hb
  have H1 : Hid (Errs aN aF aR aS aM aL w1) := H0.out.below HB.out
  clear hb H0
  have cN := H1.out.n.cell
  have cF := H1.out.f.cell
  have cR := H1.out.r.cell
  have cS := H1.out.s.cell
  have cM := H1.out.m.cell
  have cL := H1.out.l.cell
  go_wp2_with fail
  refine (is_othr H1.out.f H1.out.n (fun e => absurd e.symm (by have := HD.out; simp_all))).mono ?_
  rintro x w2 ⟨rfl, hw2⟩
  rw [hw2]
  clear hw2 w2
  go_wp2_with fail
  refine (is_same aF _).mono ?_
  rintro x w2 ⟨rfl, hw2⟩
  rw [hw2]
  clear hw2 w2
  go_wp2
  go_ret
  exact ⟨rfl, HB.out⟩
set_option maxRecDepth 100000 in
set_option maxHeartbeats 2000000 in
theorem why_R (w : World) (h : Errs aN aF aR aS aM aL w) : Calls Tryz.prog 88 #[errV aR] w fun e w' => e = .returned (.int .i64 8) ∧ Below w.heap.size w w' := by
  have hd := h.d
  simp only [List.nodup_cons, List.mem_cons, List.not_mem_nil, or_false, not_or, List.nodup_nil, and_true, not_false_eq_true] at hd
  have HD : Hid _ := hd
  have H0 : Hid (Errs aN aF aR aS aM aL w) := h
  clear h hd
  go_enter Tryz.func88, Tryz.ntmps88
  go_wp2_with fail
  refine (as_other aR _ _ (H0.out.below (fbelow_new _ _)).t).mono ?_
  rintro x w1 ⟨rfl, hb⟩
  have HB : Hid (Below w.heap.size w w1) := below_tr (fbelow_new _ _) hb
  have H1 : Hid (Errs aN aF aR aS aM aL w1) := H0.out.below HB.out
  clear hb H0
  have cN := H1.out.n.cell
  have cF := H1.out.f.cell
  have cR := H1.out.r.cell
  have cS := H1.out.s.cell
  have cM := H1.out.m.cell
  have cL := H1.out.l.cell
  go_wp2_with fail
  refine (is_othr H1.out.r H1.out.n (fun e => absurd e.symm (by have := HD.out; simp_all))).mono ?_
  rintro x w2 ⟨rfl, hw2⟩
  rw [hw2]
  clear hw2 w2
  go_wp2_with fail
  refine (is_othr H1.out.r H1.out.f (fun e => absurd e.symm (by have := HD.out; simp_all))).mono ?_
  rintro x w2 ⟨rfl, hw2⟩
  rw [hw2]
  clear hw2 w2
  go_wp2_with fail
  refine (is_same aR _).mono ?_
  rintro x w2 ⟨rfl, hw2⟩
  rw [hw2]
  clear hw2 w2
  go_wp2
  go_ret
  exact ⟨rfl, HB.out⟩
set_option maxRecDepth 100000 in
set_option maxHeartbeats 2000000 in
theorem why_S (w : World) (h : Errs aN aF aR aS aM aL w) : Calls Tryz.prog 88 #[errV aS] w fun e w' => e = .returned (.int .i64 10) ∧ Below w.heap.size w w' := by
  have hd := h.d
  simp only [List.nodup_cons, List.mem_cons, List.not_mem_nil, or_false, not_or, List.nodup_nil, and_true, not_false_eq_true] at hd
  have HD : Hid _ := hd
  have H0 : Hid (Errs aN aF aR aS aM aL w) := h
  clear h hd
  go_enter Tryz.func88, Tryz.ntmps88
  go_wp2_with fail
  refine (as_other aS _ _ (H0.out.below (fbelow_new _ _)).t).mono ?_
  rintro x w1 ⟨rfl, hb⟩
  have HB : Hid (Below w.heap.size w w1) := below_tr (fbelow_new _ _) hb
  have H1 : Hid (Errs aN aF aR aS aM aL w1) := H0.out.below HB.out
  clear hb H0
  have cN := H1.out.n.cell
  have cF := H1.out.f.cell
  have cR := H1.out.r.cell
  have cS := H1.out.s.cell
  have cM := H1.out.m.cell
  have cL := H1.out.l.cell
  go_wp2_with fail
  refine (is_othr H1.out.s H1.out.n (fun e => absurd e.symm (by have := HD.out; simp_all))).mono ?_
  rintro x w2 ⟨rfl, hw2⟩
  rw [hw2]
  clear hw2 w2
  go_wp2_with fail
  refine (is_othr H1.out.s H1.out.f (fun e => absurd e.symm (by have := HD.out; simp_all))).mono ?_
  rintro x w2 ⟨rfl, hw2⟩
  rw [hw2]
  clear hw2 w2
  go_wp2_with fail
  refine (is_othr H1.out.s H1.out.r (fun e => absurd e.symm (by have := HD.out; simp_all))).mono ?_
  rintro x w2 ⟨rfl, hw2⟩
  rw [hw2]
  clear hw2 w2
  go_wp2_with fail
  refine (is_same aS _).mono ?_
  rintro x w2 ⟨rfl, hw2⟩
  rw [hw2]
  clear hw2 w2
  go_wp2
  go_ret
  exact ⟨rfl, HB.out⟩
set_option maxRecDepth 100000 in
set_option maxHeartbeats 2000000 in
theorem why_M (w : World) (h : Errs aN aF aR aS aM aL w) : Calls Tryz.prog 88 #[errV aM] w fun e w' => e = .returned (.int .i64 9) ∧ Below w.heap.size w w' := by
  have hd := h.d
  simp only [List.nodup_cons, List.mem_cons, List.not_mem_nil, or_false, not_or, List.nodup_nil, and_true, not_false_eq_true] at hd
  have HD : Hid _ := hd
  have H0 : Hid (Errs aN aF aR aS aM aL w) := h
  clear h hd
  go_enter Tryz.func88, Tryz.ntmps88
  go_wp2_with fail
  refine (as_other aM _ _ (H0.out.below (fbelow_new _ _)).t).mono ?_
  rintro x w1 ⟨rfl, hb⟩
  have HB : Hid (Below w.heap.size w w1) := below_tr (fbelow_new _ _) hb
  have H1 : Hid (Errs aN aF aR aS aM aL w1) := H0.out.below HB.out
  clear hb H0
  have cN := H1.out.n.cell
  have cF := H1.out.f.cell
  have cR := H1.out.r.cell
  have cS := H1.out.s.cell
  have cM := H1.out.m.cell
  have cL := H1.out.l.cell
  go_wp2_with fail
  refine (is_othr H1.out.m H1.out.n (fun e => absurd e.symm (by have := HD.out; simp_all))).mono ?_
  rintro x w2 ⟨rfl, hw2⟩
  rw [hw2]
  clear hw2 w2
  go_wp2_with fail
  refine (is_othr H1.out.m H1.out.f (fun e => absurd e.symm (by have := HD.out; simp_all))).mono ?_
  rintro x w2 ⟨rfl, hw2⟩
  rw [hw2]
  clear hw2 w2
  go_wp2_with fail
  refine (is_othr H1.out.m H1.out.r (fun e => absurd e.symm (by have := HD.out; simp_all))).mono ?_
  rintro x w2 ⟨rfl, hw2⟩
  rw [hw2]
  clear hw2 w2
  go_wp2_with fail
  refine (is_othr H1.out.m H1.out.s (fun e => absurd e.symm (by have := HD.out; simp_all))).mono ?_
  rintro x w2 ⟨rfl, hw2⟩
  rw [hw2]
  clear hw2 w2
  go_wp2_with fail
  refine (is_same aM _).mono ?_
  rintro x w2 ⟨rfl, hw2⟩
  rw [hw2]
  clear hw2 w2
  go_wp2
  go_ret
  exact ⟨rfl, HB.out⟩
end Go.Proofs.YtahccighonddaaaGreatDoor
