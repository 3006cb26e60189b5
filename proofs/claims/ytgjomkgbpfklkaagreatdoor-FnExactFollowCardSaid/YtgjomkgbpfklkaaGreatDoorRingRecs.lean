/- A ring at work: whether its records are right. -/
import Derived.Test.YtgjomkgbpfklkaaGreatDoorRingSeq
import Derived.Test.YtgjomkgbpfklkaaGreatDoorRingMath
namespace Go.Proofs.YtgjomkgbpfklkaaGreatDoor
open Go.RowKit Go.Shelf
attribute [local go_sem] Oper.semAt_some
variable {cap first : Int} {ra ca : Option Addr} {rl rc cl cc : Nat}

def pRight (x : PRec) : Bool := recRightB x.1.2.1 x.1.2.2.1 x.1.2.2.2
theorem pRight_at (first : Int) (recs : List ByteArray) (j : Nat) (h : j < recs.length) : pRight (pRec first recs j) = recOkB recs[j] := by
  have hg : recs.getD j ⟨#[]⟩ = recs[j] := by simp [h]
  unfold pRight pRec recOkB
  simp only [hg]
  unfold recOf
  rcases readRes_cases recs[j] with ⟨c, hc, h⟩ | ⟨k, t, d, h, hr⟩
  · rw [h]; simp [recRightB, hc]
  · rw [h]; simp [hr]
theorem recsOk_yes (first : Int) (recs : List ByteArray) (h : ∀ y ∈ upto (pRec first recs) recs.length, pRight y = true) : recsOk recs = true := by
  unfold recsOk
  rw [List.all_eq_true]
  intro s hs
  obtain ⟨j, hj, rfl⟩ := List.getElem_of_mem hs
  rw [← pRight_at first recs j hj]
  exact h _ (by unfold upto; exact List.mem_map.2 ⟨j, List.mem_range.2 hj, rfl⟩)
theorem recsOk_no (first : Int) (recs : List ByteArray) (k : Nat) (hk : k ≤ recs.length) (h : ∃ y ∈ upto (pRec first recs) k, pRight y = false) : recsOk recs = false := by
  obtain ⟨y, hy, hf⟩ := h
  unfold upto at hy
  obtain ⟨j, hj, rfl⟩ := List.mem_map.1 hy
  have hj' : j < recs.length := by have := List.mem_range.1 hj; omega
  rw [pRight_at first recs j hj'] at hf
  unfold recsOk
  rw [List.all_eq_false]
  exact ⟨recs[j], List.getElem_mem hj', by simp [hf]⟩
/-- A block of cells abides the loop's own book-keeping. -/
theorem heap_own {W W' : World} {row : Option Nat} {B : Nat} {cs : Array Value} {t : TypeId} (h : W.heap[B]? = some (.cells cs t (0, 0))) (hg : W.grownBy W' row) (hr : ∀ r, row = some r → ∃ o : Obj, W.heap[r]? = some o ∧ o.isCells = false) : W'.heap[B]? = some (.cells cs t (0, 0)) := by
  refine (hg.block B (Array.getElem?_eq_some_iff.1 h).1 (fun e => ?_)).trans h
  obtain ⟨o, ho, hc⟩ := hr B e.symm
  rw [h] at ho
  cases ho
  simp [Obj.isCells] at hc
set_option maxRecDepth 100000 in
set_option maxHeartbeats 4000000 in
theorem impl_recsRight (b : Nat) (d st lp : Int) (recs : List ByteArray) (w : World) (hw : Work w b cap first ra rl rc ca cl cc d st lp) (hr : Strs w ra rl recs) (hrn : ∀ x, ra = some x → x.block < w.heap.size) (hs : ∀ s ∈ recs, s.size ≤ maxLen) (hT : utabs w) (h : 0 ≤ first ∧ first ≤ 1000000) (hl : rl ≤ 1048576) :
    Calls Tryz.prog 91 #[.pointer (some ⟨b, 0, none⟩)] w fun e w' => e = .returned (.bool (recsOk recs)) ∧ Below w.heap.size w w' := by
  have hlen : recs.length = rl := hr.1
  have hwb := hw.lt
  refine (callsIn_wide (n := 9)).1 ?_
  refine callsIn_of_wp_marks Tryz.func91 rfl trivial ?_ rfl
  simp only [Tryz.ntmps91, List.size_toArray, List.length_cons, List.length_nil, Nat.reduceAdd, Nat.reduceSub, Array.replicate_succ, Array.replicate_zero, List.push_toArray, List.append_toArray, List.nil_append, List.cons_append]
  gi_wp2_with (refine ⟨trivial, ?_⟩; gi_at_call 63; refine (callsIn_wide.2 (impl_recs b _)).mono ?_; rintro e w' ⟨rfl, rfl⟩)
  obtain ⟨w0, hw0⟩ : ∃ w0, (w.alloc (.cells #[.bool false] 4)).alloc (.cells #[.pointer (some ⟨b, 0, none⟩)] 67) = w0 := ⟨_, rfl⟩
  have hB0 : Below w.heap.size w w0 := by rw [← hw0]; exact ((Below.refl _ w).alloc (Nat.le_refl _) _).alloc (by simp) _
  have hsz : w0.heap.size = w.heap.size + 2 := by rw [← hw0]; simp
  have hcR : w0.heap[w.heap.size]? = some (.cells #[.bool false] 4 (0, 0)) := by
    rw [← hw0]
    exact (Below.heap_alloc _ _ _ (by simp)).trans (heap_alloc_new w _)
  have hcB : w0.cell? ⟨w.heap.size + 1, 0, none⟩ = some (.pointer (some ⟨b, 0, none⟩)) := by
    have h := heap_alloc_new (w.alloc (.cells #[.bool false] 4)) (.cells #[.pointer (some ⟨b, 0, none⟩)] 67)
    rw [World.size_alloc, hw0] at h
    exact cell_of_heap h 0
  rw [hw0]
  clear hw0
  have hTn : ∀ W', Below w.heap.size w W' → utabs W' := fun W' hb => utabs_below hT hb
  refine wpIn_rangeFunc_ownH rfl (by omega) (gf := 103) (lb := #[.pointer (some ⟨w.heap.size + 1, 0, none⟩)]) rfl trivial (enters_of Tryz.func103 (by kernel_rfl) rfl)
    (recs_stops _ (w.heap.size + 1) (w.heap.size + 2) b (by omega) d st lp recs w0 (by omega) hcB (by omega) (hw.below hB0) (by omega) (strs_below hr hB0) (fun x e => by have := hrn x e; omega) hs (fun W' hb => hTn W' (hB0.trans (hb.mono (by omega)))) h hl)
    belowK_t (belowK_b (by omega)) (Below.refl _ _) (fun _ => rfl)
    (fun pre W => ((∀ y ∈ pre, pRight y = true) ∧ w.heap.size + 2 ≤ W.heap.size ∧ W.heap[w.heap.size]? = some (.cells #[.bool false] 4 (0, 0))) ∧ Below w.heap.size w W)
    (fun c pre W => (c = .ret ∧ (∃ y ∈ pre, pRight y = false) ∧ W.heap[w.heap.size]? = some (.cells #[.bool false] 4 (0, 0))) ∧ Below w.heap.size w W)
    (OwnFrom.and (fun s A B row hs hg hr => ⟨hs.1, Nat.le_trans hs.2.1 hg.size, heap_own hs.2.2 hg (fun r e => (hr r e).2)⟩) (ownFrom_below (Nat.le_refl _) (by omega)))
    (fun c => OwnFrom.and (fun s A B row hs hg hr => ⟨hs.1, hs.2.1, heap_own hs.2.2 hg (fun r e => (hr r e).2)⟩) (ownFrom_below (Nat.le_refl _) (by omega)))
    ⟨⟨by simp, by omega, hcR⟩, hB0⟩
    (fun x a' W => ∃ Bx, w.heap.size + 2 ≤ Bx ∧ W.heap[Bx]? = some (.cells #[.int .i64 x.1.2.1, .int .i64 x.1.2.2.1, .string x.1.2.2.2] 28 (0, 0)) ∧ a' = { tmps := #[.pointer (some ⟨b, 0, none⟩), undef, .pointer (some ⟨w.heap.size, 0, none⟩), undef, .pointer (some ⟨Bx, 0, none⟩), .pointer (some ⟨b, 0, none⟩), .func (.func 103) #[] #[.pointer (some ⟨w.heap.size + 1, 0, none⟩)], .int .i64 x.1.1, recV x.1.2.1 x.1.2.2.1 x.1.2.2.2, undef, undef, undef], defers := [] })
    (fun x a' s A B row hs hg hr => by obtain ⟨Bx, h1, h2, h3⟩ := hs; exact ⟨Bx, h1, heap_own h2 hg (fun r e => (hr r e).2), h3⟩)
    ?assign ?body ?done ?stop
  case assign =>
    rintro l pre x W K ⟨⟨hp, hz, hc⟩, hB⟩ hK
    gi_wp2
    exact hK _ _ ((KeepsOthers.alloc _ _).from _) ((Below.refl _ W).alloc hz _) ⟨⟨hp, by simp; omega, (Below.heap_alloc _ _ _ (by omega)).trans hc⟩, hB.alloc (by omega) _⟩ ⟨W.heap.size, hz, heap_alloc_new _ _, rfl⟩
  case body =>
    rintro l pre ⟨⟨pl, k, t, dd⟩, hd⟩ a' W _ _ ⟨⟨hp, hz, hc⟩, hB⟩ ⟨Bx, hBx, hX, rfl⟩ _
    have x0 : W.cell? ⟨Bx, 0, none⟩ = some (.int .i64 k) := cell_of_heap hX 0
    have x1 : W.cell? ⟨Bx, 1, none⟩ = some (.int .i64 t) := cell_of_heap hX 1
    have x2 : W.cell? ⟨Bx, 2, none⟩ = some (.string dd) := cell_of_heap hX 2
    have hI : Hid (∀ w, utabs w → Calls Tryz.prog 48 #[recV k t dd] w fun e w' => e = .returned (.bool (recRightB k t dd)) ∧ Below w.heap.size w w') := fun w hT => impl_recRight k t dd w (by unfold maxLen; have : dd.size ≤ 16 := hd; omega) hT
    have HT : Hid (utabs W) := hTn W hB
    have HP : Hid (pRight ⟨(pl, k, t, dd), hd⟩ = recRightB k t dd) := rfl
    obtain ⟨R, hR⟩ : ∃ R, recRightB k t dd = R := ⟨_, rfl⟩
    rw [hR] at hI HP
    have h1 : 1 ≤ 9 - 1 - 1 := by omega
    clear hR
    cases R
    · have hf := frozen_of_heap hc 0
      have hcc : W.cell? ⟨w.heap.size, 0, none⟩ = some (.bool false) := cell_of_heap hc 0
      gi_wp2_with (refine ⟨trivial, ?_⟩; gi_at_call 48; refine (CallsIn.inRound l (callsIn_wide.2 (hI.out _ HT.out))).mono ?_; rintro e w1 ⟨rfl, hb1⟩; have hcc := (hb1.cell (p := ⟨w.heap.size, 0, none⟩) (by show w.heap.size < _; omega)).trans hcc; have hf := (hb1.frozen (p := ⟨w.heap.size, 0, none⟩) (by show w.heap.size < _; omega)).trans hf)
      exact ⟨(KeepsFrom.of_grownBy (grown_of_below hb1 none) (fun j e => by cases e)).trans ((KeepsOthers.setCell _ _ _).from _), ⟨rfl, ⟨_, List.mem_append.2 (.inr (List.mem_singleton.2 rfl)), HP.out⟩, heap_setCell_same _ _ 0 _ _ _ ((hb1.block _ (by omega)).trans hc)⟩, (below_tr hB hb1).setCell (p := ⟨w.heap.size, 0, none⟩) (Nat.le_refl _) _⟩
    · gi_wp2_with (refine ⟨trivial, ?_⟩; gi_at_call 48; refine (CallsIn.inRound l (callsIn_wide.2 (hI.out _ HT.out))).mono ?_; rintro e w1 ⟨rfl, hb1⟩)
      exact ⟨KeepsFrom.of_grownBy (grown_of_below hb1 none) (fun j e => by cases e), hb1.mono (by omega), ⟨fun y hy => by
        rcases List.mem_append.1 hy with hy | hy
        · exact hp y hy
        · rw [List.mem_singleton.1 hy]; exact HP.out, by have := hb1.size; omega, (hb1.block _ (by omega)).trans hc⟩, below_tr hB hb1⟩
  case done =>
    rintro D ys W hD rfl ⟨⟨hp, hz, hc⟩, hB⟩ hK
    have hcc : W.cell? ⟨w.heap.size, 0, none⟩ = some (.bool false) := cell_of_heap hc 0
    have hf := frozen_of_heap hc 0
    have hE : Hid (recsOk recs = true) := recsOk_yes first recs (by rw [hlen]; exact hp)
    gi_wp2
    have hK' := (KeepsOthers.setCell W ⟨w.heap.size, 0, none⟩ (.bool true)).same D _ hK rfl
    refine ⟨by simp, .inl ⟨_, _, rfl, run_takeDeferred hK', ?_⟩⟩
    have hc5 := cell_kept (World.cell?_setCell_same' W ⟨w.heap.size, 0, none⟩ (.bool true) (by rw [hcc]; rfl)) (grownBy_putObj' _ D (.deferred none)) (fun r e => by cases e; exact ⟨_, hK', rfl⟩)
    refine ⟨.bool true, ?_, by rw [hE.out], (hB.setCell (p := ⟨w.heap.size, 0, none⟩) (Nat.le_refl _) _).trans (belowK_b (w := w) (Nat.le_refl _) _ D _ _ (by omega) hK' rfl rfl)⟩
    simp [results, Tryz.results91, go_sem, hc5]
  case stop =>
    rintro D c pre W hD ⟨k, hk, rfl⟩ ⟨⟨rfl, hex, hc⟩, hB⟩ hK
    have hcc : W.cell? ⟨w.heap.size, 0, none⟩ = some (.bool false) := cell_of_heap hc 0
    have hE : Hid (recsOk recs = false) := recsOk_no first recs k (by rw [hlen]; exact hk) hex
    gi_wp2
    refine ⟨by simp, .inl ⟨_, _, rfl, run_takeDeferred hK, ?_⟩⟩
    have hc5 := cell_kept hcc (grownBy_putObj' _ D (.deferred none)) (fun r e => by cases e; exact ⟨_, hK, rfl⟩)
    refine ⟨.bool false, ?_, by rw [hE.out], hB.trans (belowK_b (w := w) (Nat.le_refl _) W D _ _ (by omega) hK rfl rfl)⟩
    simp [results, Tryz.results91, go_sem, hc5]
end Go.Proofs.YtgjomkgbpfklkaaGreatDoor
