import Derived.Test.YtahccighonddaaaGreatDoorNrm
import Derived.Test.YtahccighonddaaaGreatDoorFabEnds
import Derived.Test.YtahccighonddaaaGreatDoorRoundHeld
import Derived.Test.YtahccighonddaaaGreatDoorRingAsk
import Derived.Test.YtahccighonddaaaGreatDoorSpecFollow
namespace Go.Proofs.YtahccighonddaaaGreatDoor
open Go.RowKit Go.Shelf
attribute [local go_sem] Oper.semAt_some
set_option linter.unusedSimpArgs false
variable {B : Nat} {ta : Option Addr} {tl tc M : Nat} {ra : Option Addr} {rl rc : Nat} {ea : Option Addr} {el ec : Nat} {now began puts : Int}
def pFit (ts : List TD) (k : Int) (x : PRec) : Bool := numFitB ts k x.1.2.2.1
theorem pFit_at (ts : List TD) (k : Int) (first : Int) (recs : List ByteArray) (j : Nat) (h : j < recs.length) : pFit ts k (pRec first recs j) = recFitB ts k recs[j] := by
  have hg : recs.getD j ⟨#[]⟩ = recs[j] := by rw [List.getD_eq_getElem?_getD, List.getElem?_eq_getElem h]; rfl
  unfold pFit pRec recFitB
  simp only [hg]
  rfl
theorem fitRecs_yes (ts : List TD) (k : Int) (first : Int) (recs : List ByteArray) (h : ∀ y ∈ upto (pRec first recs) recs.length, pFit ts k y = true) : recs.all (recFitB ts k) = true := by
  rw [List.all_eq_true]
  intro s hs
  obtain ⟨j, hj, rfl⟩ := List.getElem_of_mem hs
  rw [← pFit_at ts k first recs j hj]
  exact h _ (List.mem_map.2 ⟨j, List.mem_range.2 hj, rfl⟩)
theorem fitRecs_no (ts : List TD) (k : Int) (first : Int) (recs : List ByteArray) (K : Nat) (hK : K ≤ recs.length) (h : ∃ y ∈ upto (pRec first recs) K, pFit ts k y = false) : recs.all (recFitB ts k) = false := by
  obtain ⟨y, hy, hf⟩ := h
  obtain ⟨j, hj, rfl⟩ := List.mem_map.1 hy
  have hj' : j < recs.length := by have := List.mem_range.1 hj; omega
  rw [pFit_at ts k first recs j hj'] at hf
  rw [List.all_eq_false]
  exact ⟨recs[j], List.getElem_mem hj', by simp [hf]⟩
structure RB3 (w v : World) (B : Nat) (k : Nat) : Prop where
  p : v.heap[w.heap.size]? = some (.cells #[.pointer (some ⟨B, 0, none⟩)] 75 (0, 0))
  k : v.heap[w.heap.size + 1]? = some (.cells #[.int .i64 (k : Int)] 2 (0, 0))
  r : v.heap[w.heap.size + 1 + 1]? = some (.cells #[.bool false] 4 (0, 0))
theorem RB3.under {w u v : World} {B k : Nat} (h : RB3 w u B k) (hb : Below u.heap.size u v) : RB3 w v B k :=
  ⟨(hb.block _ (fb_lt h.p)).trans h.p, (hb.block _ (fb_lt h.k)).trans h.k, (hb.block _ (fb_lt h.r)).trans h.r⟩
theorem RB3.no {w u : World} {B k : Nat} (h : RB3 w u B k) : RB3 w (u.setCell ⟨w.heap.size + 1 + 1, 0, none⟩ (.bool false)) B k := by
  have hS := grown_setc u (w.heap.size + 1 + 1) 0 (.bool false)
  exact ⟨(hS.block _ (fb_lt h.p) (by simp; omega)).trans h.p, (hS.block _ (fb_lt h.k) (by simp)).trans h.k, heap_setCell_same _ _ 0 _ _ _ h.r⟩
theorem RB3.own {w u v : World} {B k : Nat} {row : Option Nat} (h : RB3 w u B k) (hg : u.grownBy v row) (hr : ∀ r, row = some r → ∃ o : Obj, u.heap[r]? = some o ∧ o.isCells = false) : RB3 w v B k := ⟨heap_own h.p hg hr, heap_own h.k hg hr, heap_own h.r hg hr⟩
theorem rb3_new (w : World) (B k : Nat) : RB3 w (((w.alloc (.cells #[.pointer (some ⟨B, 0, none⟩)] 75 (0, 0))).alloc (.cells #[.int .i64 (k : Int)] 2 (0, 0))).alloc (.cells #[.bool false] 4 (0, 0))) B k := by
  refine ⟨(Below.heap_alloc _ _ _ (by simp; omega)).trans ((Below.heap_alloc _ _ _ (by simp)).trans (heap_alloc_new _ _)), ?_, ?_⟩
  · have h := heap_alloc_new (w.alloc (.cells #[.pointer (some ⟨B, 0, none⟩)] 75 (0, 0))) (.cells #[.int .i64 (k : Int)] 2 (0, 0))
    rw [World.size_alloc] at h
    exact (Below.heap_alloc _ _ _ (by simp)).trans h
  · have h := heap_alloc_new ((w.alloc (.cells #[.pointer (some ⟨B, 0, none⟩)] 75 (0, 0))).alloc (.cells #[.int .i64 (k : Int)] 2 (0, 0))) (.cells #[.bool false] 4 (0, 0))
    simp only [World.size_alloc] at h
    exact h
set_option maxRecDepth 100000 in
set_option maxHeartbeats 8000000 in
theorem impl_fabRecs (k : Nat) (r : RD) (rs : List RD) (ts : List TD) (w : World) (hb : w.heap[B]? = some (workO ta tl tc M ra rl rc ea el ec now began puts)) (hR : Rngs w ra rl rs) (hT : Txs w ta tl ts) (hk : rs[k]? = some r) (hrr : ringRightB r.cap r.first r.recs r.curs = true) (hU : ∀ t ∈ ts, upB t.rs = true) (hTb : utabs w) (htl : tl ≤ 1048576) (_hrl : rl ≤ 1048576) :
    Calls Tryz.prog 190 #[.pointer (some ⟨B, 0, none⟩), .int .i64 k] w fun x w' => x = .returned (.bool (r.recs.all (recFitB ts (k : Int)))) ∧ Below w.heap.size w w' := by
  have hkl : k < rl := by rw [← hR.1]; exact (List.getElem?_eq_some_iff.1 hk).1
  have hki : (k : Int) < (rl : Int) := by omega
  have hB3 : Below w.heap.size w (((w.alloc (.cells #[.pointer (some ⟨B, 0, none⟩)] 75 (0, 0))).alloc (.cells #[.int .i64 (k : Int)] 2 (0, 0))).alloc (.cells #[.bool false] 4 (0, 0))) := (((Below.refl _ _).alloc (Nat.le_refl _) _).alloc (by simp) _).alloc (by simp; omega) _
  obtain ⟨b, off, r', rfl, e1, g0, g1, g2, g3, hf⟩ := rngsG_at keeps_fit hR hB3 hkl
  obtain rfl : r = r' := Option.some.inj (hk.symm.trans e1)
  obtain ⟨hF, _, _, _, _⟩ := right_first hrr
  have H3 : Hid (RB3 w (((w.alloc (.cells #[.pointer (some ⟨B, 0, none⟩)] 75 (0, 0))).alloc (.cells #[.int .i64 (k : Int)] 2 (0, 0))).alloc (.cells #[.bool false] 4 (0, 0))) B k) := rb3_new _ _ _
  have HBX : Hid (∀ v, Below w.heap.size w v → v.heap[B]? = some (workO ta tl tc M (some ⟨b, off, none⟩) rl rc ea el ec now began puts)) := fun v hv => (hv.block _ (fb_lt hb)).trans hb
  have HT : Hid (Txs w ta tl ts) := hT
  have HL : Hid (ts.length = tl) := hT.1
  have HU : Hid (∀ t ∈ ts, upB t.rs = true) := hU
  have HTb : Hid (utabs w) := hTb
  have HF3 : Hid (r.fit (((w.alloc (.cells #[.pointer (some ⟨B, 0, none⟩)] 75 (0, 0))).alloc (.cells #[.int .i64 (k : Int)] 2 (0, 0))).alloc (.cells #[.bool false] 4 (0, 0)))) := hf.out
  have cB := fun o => fb_cell (HBX.out _ hB3) o
  clear hR hT hU hTb hk e1 hf hb
  obtain ⟨cap, first, ra', rl', rc', ca', cl', cc', recs, curs⟩ := r
  simp only at g0 g1 g2 g3 hF hrr
  have hlen : recs.length = rl' := HF3.out.str.strs.1
  have hrl' : rl' ≤ 1048576 := HF3.out.rle
  refine (callsIn_wide (n := 9)).1 ?_
  refine callsIn_of_wp_marks Tryz.func190 rfl trivial ?_ rfl
  simp only [Tryz.ntmps190, List.size_toArray, List.length_cons, List.length_nil, Nat.reduceAdd, Nat.reduceSub, Array.replicate_succ, Array.replicate_zero, List.push_toArray, List.append_toArray, List.nil_append, List.cons_append]
  gi_wp2
  obtain ⟨W, hW⟩ : ∃ W, ((w.alloc (.cells #[.pointer (some ⟨B, 0, none⟩)] 75 (0, 0))).alloc (.cells #[.int .i64 (k : Int)] 2 (0, 0))).alloc (.cells #[.bool false] 4 (0, 0)) = W := ⟨_, rfl⟩
  have hWs : W.heap.size = w.heap.size + 3 := by rw [← hW]; simp
  rw [hW] at hB3 g0 g1 g2 g3 H3 HF3 cB ⊢
  clear hW
  have HB3 : Hid (Below w.heap.size w W) := hB3
  have D : Below W.heap.size W W.drew := (Below.refl _ _).drew
  refine wpIn_held_func (S := (fun x => (∀ o, x.cell? ⟨w.heap.size, o, none⟩ = (#[.pointer (some ⟨B, 0, none⟩)] : Array Value)[o]?) ∧ (∀ o, x.cell? ⟨w.heap.size + 1, o, none⟩ = (#[.int .i64 (k : Int)] : Array Value)[o]?) ∧ (∀ o, x.cell? ⟨B, o, none⟩ = (workC ta tl tc M (some ⟨b, off, none⟩) rl rc ea el ec now began puts)[o]?) ∧ x.cell? ⟨b, off + k * 4, none⟩ = some (.int .i64 cap) ∧ x.cell? ⟨b, off + k * 4 + 1, none⟩ = some (.int .i64 first) ∧ x.cell? ⟨b, off + k * 4 + 2, none⟩ = some (.slice ra' rl' rc') ∧ x.cell? ⟨b, off + k * 4 + 3, none⟩ = some (.slice ca' cl' cc'))) (by kernel_rfl) (⟨fun o => fb_cell (H3.out.under D).p o, fun o => fb_cell (H3.out.under D).k o, fun o => fb_cell (HBX.out _ (below_tr HB3.out D)) o, cell_below g0 D, cell_below g1 D, cell_below g2 D, cell_below g3 D⟩) (fun hHeld => ?_)
  refine tk (i := 0) (v := ?_) rfl hHeld (.inl ⟨by rfl, ?_⟩) ?_
  rotate_left
  · intro wy hSw; (try dsimp only at hSw); go_simp; (try with_reducible rfl)
  try simp only [Act.put, n1, n2, n3, n4, n5, n6]
  refine tk (i := 1) (v := ?_) rfl hHeld (.inl ⟨by rfl, ?_⟩) ?_
  rotate_left
  · intro wy hSw; (try dsimp only at hSw); go_simp; (try with_reducible rfl)
  try simp only [Act.put, n1, n2, n3, n4, n5, n6]
  refine tk (i := 2) (v := ?_) rfl hHeld (.inl ⟨by rfl, ?_⟩) ?_
  rotate_left
  · intro wy hSw; (try dsimp only at hSw); go_simp; (try with_reducible rfl)
  try simp only [Act.put, n1, n2, n3, n4, n5, n6]
  refine tk (i := 3) (v := ?_) rfl hHeld (.inl ⟨by rfl, ?_⟩) ?_
  rotate_left
  · intro wy hSw; (try dsimp only at hSw); go_simp; (try with_reducible rfl)
  try simp only [Act.put, n1, n2, n3, n4, n5, n6]
  refine tk (i := 4) (v := ?_) rfl hHeld (.inl ⟨by rfl, ?_⟩) ?_
  rotate_left
  · intro wy hSw; (try dsimp only at hSw); go_simp; (try with_reducible rfl)
  try simp only [Act.put, n1, n2, n3, n4, n5, n6]
  refine tk (i := 5) (v := ?_) rfl hHeld (.inl ⟨by rfl, ?_⟩) ?_
  rotate_left
  · intro wy hSw; (try dsimp only at hSw); go_simp; (try with_reducible rfl)
  try simp only [Act.put, n1, n2, n3, n4, n5, n6]
  refine tk (i := 6) (v := ?_) rfl hHeld (.inl ⟨by rfl, ?_⟩) ?_
  rotate_left
  · intro wy hSw; (try dsimp only at hSw); go_simp; (try with_reducible rfl)
  try simp only [Act.put, n1, n2, n3, n4, n5, n6]
  refine wpAnyH_ready (rs := [7]) (by kernel_rfl) (by simp) ?_
  refine AllReadyH.cons rfl (fun K hK => ?_) AllReadyH.nil
  go_simp
  refine (impl_atWork (cap := cap) (first := first) (ra := ra') (rl := rl') (rc := rc') (ca := ca') (cl := cl') (cc := cc') _).mono ?_; rintro x v ⟨rfl, hbv, hwk, hsz⟩
  go_wp2_with fail
  refine hK.out _ _ ?_ (fun hHeld => ?_)
  · exact ⟨fun o => fb_cell (H3.out.under (below_tr D hbv)).p o, fun o => fb_cell (H3.out.under (below_tr D hbv)).k o, fun o => fb_cell (HBX.out _ (below_tr HB3.out (below_tr D hbv))) o, cell_below g0 (below_tr D hbv), cell_below g1 (below_tr D hbv), cell_below g2 (below_tr D hbv), cell_below g3 (below_tr D hbv)⟩
  clear hK K
  try simp only [Act.put, n1, n2, n3, n4, n5, n6]
  refine wpAnyH_ready (rs := [8]) (by kernel_rfl) (by simp) ?_
  refine AllReadyH.cons rfl (fun K hK => ?_) AllReadyH.nil
  go_simp
  refine (impl_recs _ _).mono ?_; rintro x v2 ⟨rfl, rfl⟩
  go_wp2_with fail
  refine hK.out _ _ ?_ (fun hHeld => ?_)
  · exact ⟨fun o => fb_cell (H3.out.under (below_tr (below_tr D hbv) (fbelow_new _ _))).p o, fun o => fb_cell (H3.out.under (below_tr (below_tr D hbv) (fbelow_new _ _))).k o, fun o => fb_cell (HBX.out _ (below_tr HB3.out (below_tr (below_tr D hbv) (fbelow_new _ _)))) o, cell_below g0 (below_tr (below_tr D hbv) (fbelow_new _ _)), cell_below g1 (below_tr (below_tr D hbv) (fbelow_new _ _)), cell_below g2 (below_tr (below_tr D hbv) (fbelow_new _ _)), cell_below g3 (below_tr (below_tr D hbv) (fbelow_new _ _))⟩
  clear hK K
  try simp only [Act.put, n1, n2, n3, n4, n5, n6]
  refine wpAnyH_done (by kernel_rfl) ?_ _
  refine onlyN_mk ?_
  have hB0 : Below w.heap.size w (v.alloc (.cells #[.pointer (some ⟨w.heap.size + 3 + 1, 0, none⟩)] 155)) := below_tr HB3.out (below_tr (below_tr D hbv) (fbelow_new _ _))
  have H4 : RB3 w (v.alloc (.cells #[.pointer (some ⟨w.heap.size + 3 + 1, 0, none⟩)] 155)) B k := H3.out.under (below_tr (below_tr D hbv) (fbelow_new _ _))
  have hvs : v.heap.size = w.heap.size + 5 := by rw [hsz]; show W.heap.size + 2 = _; omega
  have hcB : (v.alloc (.cells #[.pointer (some ⟨w.heap.size + 3 + 1, 0, none⟩)] 155)).cell? ⟨w.heap.size + 5, 0, none⟩ = some (.pointer (some ⟨w.heap.size + 3 + 1, 0, none⟩)) := by rw [← hvs]; exact cell_of_heap (heap_alloc_new v (.cells #[.pointer (some ⟨w.heap.size + 3 + 1, 0, none⟩)] 155)) 0
  have hwk0 : Work (v.alloc (.cells #[.pointer (some ⟨w.heap.size + 3 + 1, 0, none⟩)] 155)) (w.heap.size + 3 + 1) cap first ra' rl' rc' ca' cl' cc' 0 0 0 := by have h := hwk.below (fbelow_new v (.cells #[.pointer (some ⟨w.heap.size + 3 + 1, 0, none⟩)] 155)); rwa [show W.drew.heap.size + 1 = w.heap.size + 3 + 1 by show W.heap.size + 1 = _; omega] at h
  have hf0 : RFit (v.alloc (.cells #[.pointer (some ⟨w.heap.size + 3 + 1, 0, none⟩)] 155)) ra' rl' rc' ca' cl' cc' recs curs := HF3.out.below (below_tr (below_tr D hbv) (fbelow_new _ _))
  have hs0 : (v.alloc (.cells #[.pointer (some ⟨w.heap.size + 3 + 1, 0, none⟩)] 155)).heap.size = w.heap.size + 6 := by rw [World.size_alloc]; omega
  gi_wp2
  obtain ⟨w0, hw0⟩ : ∃ w0, v.alloc (.cells #[.pointer (some ⟨w.heap.size + 3 + 1, 0, none⟩)] 155) = w0 := ⟨_, rfl⟩
  rw [hw0] at hB0 H4 hcB hwk0 hf0 hs0 ⊢
  clear hw0 hHeld
  have hTn : ∀ W', Below w.heap.size w W' → utabs W' := fun W' hb => utabs_below HTb.out hb
  clear hbv hwk hsz D g0 g1 g2 g3 cB H3 HF3 HB3
  refine wpIn_rangeFunc_ownH rfl (by omega) (gf := 232) (lb := #[.pointer (some ⟨w.heap.size + 3 + 2, 0, none⟩)]) rfl trivial (enters_of Tryz.func232 (by kernel_rfl) rfl)
    (recs_stops _ (w.heap.size + 3 + 2) (w.heap.size + 6) (w.heap.size + 3 + 1) (by omega) 0 0 0 recs w0 (by omega) hcB (by omega) hwk0 (by omega) hf0.str.strs (fun x e => by have := hf0.str.lt x e; omega) (fun s hs => by have := hf0.sz s hs; unfold maxLen; omega) (fun W' hb => hTn W' (hB0.trans (hb.mono (by omega)))) hF hrl')
    belowK_t (belowK_b (by omega)) (Below.refl _ _) (fun _ => rfl)
    (fun pre W => ((∀ y ∈ pre, pFit ts (k : Int) y = true) ∧ w.heap.size + 6 ≤ W.heap.size ∧ RB3 w W B k) ∧ Below w.heap.size w W)
    (fun c pre W => (c = .ret ∧ (∃ y ∈ pre, pFit ts (k : Int) y = false) ∧ RB3 w W B k) ∧ Below w.heap.size w W)
    (OwnFrom.and (fun s A B row hs hg hr => ⟨hs.1, Nat.le_trans hs.2.1 hg.size, hs.2.2.own hg (fun r e => (hr r e).2)⟩) (ownFrom_below (Nat.le_refl _) (by omega)))
    (fun c => OwnFrom.and (fun s A B row hs hg hr => ⟨hs.1, hs.2.1, hs.2.2.own hg (fun r e => (hr r e).2)⟩) (ownFrom_below (Nat.le_refl _) (by omega)))
    ⟨⟨by simp, by omega, H4⟩, hB0⟩
    (fun x a' W => ∃ Bx, w.heap.size + 6 ≤ Bx ∧ W.heap[Bx]? = some (.cells #[.int .i64 x.1.2.1, .int .i64 x.1.2.2.1, .string x.1.2.2.2] 65 (0, 0)) ∧ a' = { tmps := #[.pointer (some ⟨B, 0, none⟩), .int .i64 (k : Int), .pointer (some ⟨w.heap.size, 0, none⟩), .pointer (some ⟨w.heap.size + 1, 0, none⟩), .pointer (some ⟨w.heap.size + 1 + 1, 0, none⟩), undef, .pointer (some ⟨Bx, 0, none⟩), .pointer (some ⟨B, 0, none⟩), .pointer (some ⟨B, 0, none⟩), .pointer (some ⟨B, 2, none⟩), .slice (some ⟨b, off, none⟩) rl rc, .int .i64 (k : Int), .pointer (some ⟨b, off + k * 4, none⟩), ringV cap first ra' rl' rc' ca' cl' cc', .pointer (some ⟨w.heap.size + 3 + 1, 0, none⟩), .func (.func 232) #[] #[.pointer (some ⟨w.heap.size + 3 + 2, 0, none⟩)], .int .i64 x.1.1, recV x.1.2.1 x.1.2.2.1 x.1.2.2.2, undef, undef, undef, undef, undef, undef, undef, undef, undef, undef, undef, undef, undef, undef, undef, undef, undef, undef, undef, undef, undef, undef, undef], defers := [] })
    (fun x a' s A B row hs hg hr => by obtain ⟨Bx, h1, h2, h3⟩ := hs; exact ⟨Bx, h1, heap_own h2 hg (fun r e => (hr r e).2), h3⟩)
    ?assign ?body ?done ?stop
  case assign =>
    rintro l pre x W' K ⟨⟨hp, hz, hc⟩, hB⟩ hK
    gi_wp2
    exact hK _ _ ((KeepsOthers.alloc _ _).from _) ((Below.refl _ W').alloc hz _) ⟨⟨hp, by simp; omega, hc.under (fbelow_new _ _)⟩, hB.alloc (by omega) _⟩ ⟨W'.heap.size, hz, heap_alloc_new _ _, rfl⟩
  case body =>
    rintro l pre ⟨⟨pl, kk, t, dd⟩, hd⟩ a' W' _ _ ⟨⟨hp, hz, hc⟩, hB⟩ ⟨Bx, hBx, hX, rfl⟩ _
    simp only at hX ⊢
    have HP : Hid (pFit ts (k : Int) ⟨(pl, kk, t, dd), hd⟩ = numFitB ts (k : Int) t) := rfl
    have D' : Below W'.heap.size W' W'.drew := (Below.refl _ _).drew
    have HBW : Hid (Below w.heap.size w W'.drew) := below_tr hB D'
    have HC : Hid (RB3 w W' B k) := hc
    have HX : Hid (W'.heap[Bx]? = some (.cells #[.int .i64 kk, .int .i64 t, .string dd] 65 (0, 0))) := hX
    have HPP : Hid (∀ y ∈ pre, pFit ts (k : Int) y = true) := hp
    have HB0 : Hid (Below w.heap.size w W') := hB
    have hzz := hz
    clear hX hp hc hB
    gi_wp2
    by_cases hN : 1 ≤ t ∧ t ≤ (tl : Int)
    case neg =>
      have hN' : decide (1 ≤ t ∧ t ≤ (tl : Int)) = false := decide_eq_false hN
      have HNO : Hid (pFit ts (k : Int) ⟨(pl, kk, t, dd), hd⟩ = false) := by show _ = _; rw [HP.out]; exact numFit_no (by rw [HL.out]; exact hN)
      clear hN
      refine wpIn_held_round (S := (fun x => (∀ o, x.cell? ⟨w.heap.size, o, none⟩ = (#[.pointer (some ⟨B, 0, none⟩)] : Array Value)[o]?) ∧ (∀ o, x.cell? ⟨w.heap.size + 1, o, none⟩ = (#[.int .i64 (k : Int)] : Array Value)[o]?) ∧ (∀ o, x.cell? ⟨B, o, none⟩ = (workC ta tl tc M (some ⟨b, off, none⟩) rl rc ea el ec now began puts)[o]?) ∧ (∀ o, x.cell? ⟨Bx, o, none⟩ = (#[.int .i64 kk, .int .i64 t, .string dd] : Array Value)[o]?))) (by kernel_rfl) (by kernel_rfl) (⟨fun o => fb_cell (HC.out.under D').p o, fun o => fb_cell (HC.out.under D').k o, fun o => fb_cell (HBX.out _ (below_tr HB0.out D')) o, fun o => fb_cell ((D'.block _ (fb_lt HX.out)).trans HX.out) o⟩) (fun hHeld => ?_)
      refine tk (i := 0) (v := ?_) rfl hHeld (.inl ⟨by rfl, ?_⟩) ?_
      rotate_left
      · intro wy hSw; (try dsimp only at hSw); go_simp; (try with_reducible rfl)
      try simp only [Act.put, n1, n2, n3, n4, n5, n6]
      refine tk (i := 1) (v := ?_) rfl hHeld (.inl ⟨by rfl, ?_⟩) ?_
      rotate_left
      · intro wy hSw; (try dsimp only at hSw); go_simp; (try with_reducible rfl)
      try simp only [Act.put, n1, n2, n3, n4, n5, n6]
      refine tk (i := 2) (v := ?_) rfl hHeld (.inl ⟨by rfl, ?_⟩) ?_
      rotate_left
      · intro wy hSw; (try dsimp only at hSw); go_simp; (try with_reducible rfl)
      try simp only [Act.put, n1, n2, n3, n4, n5, n6]
      refine tk (i := 3) (v := ?_) rfl hHeld (.inl ⟨by rfl, ?_⟩) ?_
      rotate_left
      · intro wy hSw; (try dsimp only at hSw); go_simp; (try with_reducible rfl)
      try simp only [Act.put, n1, n2, n3, n4, n5, n6]
      refine tk (i := 4) (v := ?_) rfl hHeld (.inl ⟨by rfl, ?_⟩) ?_
      rotate_left
      · intro wy hSw; (try dsimp only at hSw); go_simp; (try with_reducible rfl)
      try simp only [Act.put, n1, n2, n3, n4, n5, n6]
      refine wpAnyH_ready (rs := [5]) (by kernel_rfl) (by simp) ?_
      refine AllReadyH.cons rfl (fun K hK => ?_) AllReadyH.nil
      go_simp
      refine (impl_hasNumber (B := B) t _ (HBX.out _ HBW.out) htl).mono ?_; rintro x v5 ⟨rfl, hv5⟩; rw [hv5]; clear hv5 v5
      go_wp2_with fail
      refine hK.out _ _ ?_ (fun hHeld => ?_)
      · exact hHeld
      clear hK K
      try simp only [Act.put, n1, n2, n3, n4, n5, n6]
      refine tk (i := 6) (v := ?_) rfl hHeld (.inl ⟨by rfl, ?_⟩) ?_
      rotate_left
      · intro wy hSw; (try dsimp only at hSw); go_simp; (try with_reducible rfl)
      try simp only [Act.put, n1, n2, n3, n4, n5, n6]
      refine tk (i := 7) (v := ?_) rfl hHeld (.inl ⟨by rfl, ?_⟩) ?_
      rotate_left
      · intro wy hSw; (try dsimp only at hSw); go_simp; (try with_reducible rfl)
      try simp only [Act.put, n1, n2, n3, n4, n5, n6]
      refine tk (i := 8) (v := undef) rfl hHeld (.inr ⟨by rfl, rfl⟩) ?_
      try simp only [Act.put, n1, n2, n3, n4, n5, n6]
      refine tk (i := 9) (v := undef) rfl hHeld (.inr ⟨by rfl, rfl⟩) ?_
      try simp only [Act.put, n1, n2, n3, n4, n5, n6]
      refine tk (i := 10) (v := undef) rfl hHeld (.inr ⟨by rfl, rfl⟩) ?_
      try simp only [Act.put, n1, n2, n3, n4, n5, n6]
      refine tk (i := 11) (v := undef) rfl hHeld (.inr ⟨by rfl, rfl⟩) ?_
      try simp only [Act.put, n1, n2, n3, n4, n5, n6]
      refine tk (i := 12) (v := undef) rfl hHeld (.inr ⟨by rfl, rfl⟩) ?_
      try simp only [Act.put, n1, n2, n3, n4, n5, n6]
      refine tk (i := 13) (v := undef) rfl hHeld (.inr ⟨by rfl, rfl⟩) ?_
      try simp only [Act.put, n1, n2, n3, n4, n5, n6]
      refine tk (i := 14) (v := undef) rfl hHeld (.inr ⟨by rfl, rfl⟩) ?_
      try simp only [Act.put, n1, n2, n3, n4, n5, n6]
      refine tk (i := 15) (v := undef) rfl hHeld (.inr ⟨by rfl, rfl⟩) ?_
      try simp only [Act.put, n1, n2, n3, n4, n5, n6]
      refine tk (i := 16) (v := undef) rfl hHeld (.inr ⟨by rfl, rfl⟩) ?_
      try simp only [Act.put, n1, n2, n3, n4, n5, n6]
      refine tk (i := 17) (v := undef) rfl hHeld (.inr ⟨by rfl, rfl⟩) ?_
      try simp only [Act.put, n1, n2, n3, n4, n5, n6]
      refine tk (i := 18) (v := undef) rfl hHeld (.inr ⟨by rfl, rfl⟩) ?_
      try simp only [Act.put, n1, n2, n3, n4, n5, n6]
      refine tk (i := 19) (v := undef) rfl hHeld (.inr ⟨by rfl, rfl⟩) ?_
      try simp only [Act.put, n1, n2, n3, n4, n5, n6]
      refine tk (i := 20) (v := undef) rfl hHeld (.inr ⟨by rfl, rfl⟩) ?_
      try simp only [Act.put, n1, n2, n3, n4, n5, n6]
      refine tk (i := 21) (v := undef) rfl hHeld (.inr ⟨by rfl, rfl⟩) ?_
      try simp only [Act.put, n1, n2, n3, n4, n5, n6]
      refine tk (i := 22) (v := ?_) rfl hHeld (.inl ⟨by rfl, ?_⟩) ?_
      rotate_left
      · intro wy hSw; (try dsimp only at hSw); go_simp; (try with_reducible rfl)
      try simp only [Act.put, n1, n2, n3, n4, n5, n6]
      refine wpAnyH_done (by kernel_rfl) ?_ _
      refine onlyN_mk ?_
      clear hHeld
      have hcc : W'.drew.cell? ⟨w.heap.size + 1 + 1, 0, none⟩ = some (.bool false) := cell_of_heap (HC.out.under D').r 0
      have hff := frozen_of_heap (HC.out.under D').r 0
      gi_wp2
      exact ⟨(KeepsFrom.of_grownBy (grown_of_below D' none) (fun j e => by cases e)).trans ((KeepsOthers.setCell _ _ _).from _), ⟨rfl, ⟨_, List.mem_append.2 (.inr (List.mem_singleton.2 rfl)), HNO.out⟩, (HC.out.under D').no⟩, HBW.out.setCell (p := ⟨w.heap.size + 1 + 1, 0, none⟩) (by show w.heap.size ≤ w.heap.size + 1 + 1; omega) _⟩
    have hN' : decide (1 ≤ t ∧ t ≤ (tl : Int)) = true := decide_eq_true hN
    obtain ⟨m, hm⟩ : ∃ m : Nat, t = (m : Int) + 1 := ⟨(t - 1).toNat, by omega⟩
    subst hm
    have hmt : m < tl := by omega
    obtain ⟨bt, offt, tx, hta, et, q0, q1, q2, q3, q4, q5, hfx⟩ := txsG_at keeps_tfit HT.out HBW.out hmt
    subst hta
    have hux := HU.out tx (List.mem_of_getElem? et)
    have hNF : numFitB ts (k : Int) ((m : Int) + 1) = touchB tx.rs (k : Int) := (numFit_at (by omega) et).trans (find_has hux (k : Int)).symm
    have HP2 : Hid (pFit ts (k : Int) ⟨(pl, kk, (m : Int) + 1, dd), hd⟩ = touchB tx.rs (k : Int)) := HP.out.trans hNF
    have hWm : IntKind.i64.wrap (m : Int) = (m : Int) := twrap_in _ (by omega) (by omega)
    have hmi : (m : Int) < (tl : Int) := by omega
    clear et hux hNF hN
    obtain ⟨p', e', s', u', xa, xl, xc, ya, yl, yc, rs', ls'⟩ := tx
    simp only at q0 q1 q2 q3 q4 q5 HP2
    have HFX : Hid (TFit W'.drew ⟨p', e', s', u', xa, xl, xc, ya, yl, yc, rs', ls'⟩) := hfx.out
    have hxl : xl ≤ 1048576 := hfx.out.rle
    clear hfx
    obtain ⟨R, hR⟩ : ∃ R, touchB rs' (k : Int) = R := ⟨_, rfl⟩
    have HTC : Hid _ := fun w h1 h2 => impl_touched (p := p') (e := e') (s := s') (u := u') (ra := xa) (rl := xl) (rc := xc) (la := ya) (ll := yl) (lc := yc) W'.heap.size (k : Int) rs' w h1 h2 hxl
    rw [hR] at HTC HP2
    clear hR
    cases R with
    | false =>
      refine wpIn_held_round (S := (fun x => (∀ o, x.cell? ⟨w.heap.size, o, none⟩ = (#[.pointer (some ⟨B, 0, none⟩)] : Array Value)[o]?) ∧ (∀ o, x.cell? ⟨w.heap.size + 1, o, none⟩ = (#[.int .i64 (k : Int)] : Array Value)[o]?) ∧ (∀ o, x.cell? ⟨B, o, none⟩ = (workC (some ⟨bt, offt, none⟩) tl tc M (some ⟨b, off, none⟩) rl rc ea el ec now began puts)[o]?) ∧ (∀ o, x.cell? ⟨Bx, o, none⟩ = (#[.int .i64 kk, .int .i64 ((m : Int) + 1), .string dd] : Array Value)[o]?) ∧ x.cell? ⟨bt, offt + m * 6, none⟩ = some (.int .i64 p') ∧ x.cell? ⟨bt, offt + m * 6 + 1, none⟩ = some (.int .i64 e') ∧ x.cell? ⟨bt, offt + m * 6 + 2, none⟩ = some (.int .i64 s') ∧ x.cell? ⟨bt, offt + m * 6 + 3, none⟩ = some (.int .i64 u') ∧ x.cell? ⟨bt, offt + m * 6 + 4, none⟩ = some (.slice xa xl xc) ∧ x.cell? ⟨bt, offt + m * 6 + 5, none⟩ = some (.slice ya yl yc))) (by kernel_rfl) (by kernel_rfl) (⟨fun o => fb_cell (HC.out.under D').p o, fun o => fb_cell (HC.out.under D').k o, fun o => fb_cell (HBX.out _ (below_tr HB0.out D')) o, fun o => fb_cell ((D'.block _ (fb_lt HX.out)).trans HX.out) o, q0, q1, q2, q3, q4, q5⟩) (fun hHeld => ?_)
      refine tk (i := 0) (v := ?_) rfl hHeld (.inl ⟨by rfl, ?_⟩) ?_
      rotate_left
      · intro wy hSw; (try dsimp only at hSw); go_simp; (try with_reducible rfl)
      try simp only [Act.put, n1, n2, n3, n4, n5, n6]
      refine tk (i := 1) (v := ?_) rfl hHeld (.inl ⟨by rfl, ?_⟩) ?_
      rotate_left
      · intro wy hSw; (try dsimp only at hSw); go_simp; (try with_reducible rfl)
      try simp only [Act.put, n1, n2, n3, n4, n5, n6]
      refine tk (i := 2) (v := ?_) rfl hHeld (.inl ⟨by rfl, ?_⟩) ?_
      rotate_left
      · intro wy hSw; (try dsimp only at hSw); go_simp; (try with_reducible rfl)
      try simp only [Act.put, n1, n2, n3, n4, n5, n6]
      refine tk (i := 3) (v := ?_) rfl hHeld (.inl ⟨by rfl, ?_⟩) ?_
      rotate_left
      · intro wy hSw; (try dsimp only at hSw); go_simp; (try with_reducible rfl)
      try simp only [Act.put, n1, n2, n3, n4, n5, n6]
      refine tk (i := 4) (v := ?_) rfl hHeld (.inl ⟨by rfl, ?_⟩) ?_
      rotate_left
      · intro wy hSw; (try dsimp only at hSw); go_simp; (try with_reducible rfl)
      try simp only [Act.put, n1, n2, n3, n4, n5, n6]
      refine wpAnyH_ready (rs := [5]) (by kernel_rfl) (by simp) ?_
      refine AllReadyH.cons rfl (fun K hK => ?_) AllReadyH.nil
      go_simp
      refine (impl_hasNumber (B := B) ((m : Int) + 1) _ (HBX.out _ HBW.out) htl).mono ?_; rintro x v5 ⟨rfl, hv5⟩; rw [hv5]; clear hv5 v5
      go_wp2_with fail
      refine hK.out _ _ ?_ (fun hHeld => ?_)
      · exact hHeld
      clear hK K
      try simp only [Act.put, n1, n2, n3, n4, n5, n6]
      refine tk (i := 6) (v := ?_) rfl hHeld (.inl ⟨by rfl, ?_⟩) ?_
      rotate_left
      · intro wy hSw; (try dsimp only at hSw); go_simp; (try with_reducible rfl)
      try simp only [Act.put, n1, n2, n3, n4, n5, n6]
      refine tk (i := 7) (v := ?_) rfl hHeld (.inl ⟨by rfl, ?_⟩) ?_
      rotate_left
      · intro wy hSw; (try dsimp only at hSw); go_simp; (try with_reducible rfl)
      try simp only [Act.put, n1, n2, n3, n4, n5, n6]
      refine tk (i := 8) (v := ?_) rfl hHeld (.inl ⟨by rfl, ?_⟩) ?_
      rotate_left
      · intro wy hSw; (try dsimp only at hSw); go_simp; (try with_reducible rfl)
      try simp only [Act.put, n1, n2, n3, n4, n5, n6]
      refine tk (i := 9) (v := ?_) rfl hHeld (.inl ⟨by rfl, ?_⟩) ?_
      rotate_left
      · intro wy hSw; (try dsimp only at hSw); go_simp; (try with_reducible rfl)
      try simp only [Act.put, n1, n2, n3, n4, n5, n6]
      refine tk (i := 10) (v := ?_) rfl hHeld (.inl ⟨by rfl, ?_⟩) ?_
      rotate_left
      · intro wy hSw; (try dsimp only at hSw); go_simp; (try with_reducible rfl)
      try simp only [Act.put, n1, n2, n3, n4, n5, n6]
      refine tk (i := 11) (v := ?_) rfl hHeld (.inl ⟨by rfl, ?_⟩) ?_
      rotate_left
      · intro wy hSw; (try dsimp only at hSw); go_simp; (try with_reducible rfl)
      try simp only [Act.put, n1, n2, n3, n4, n5, n6]
      refine tk (i := 12) (v := ?_) rfl hHeld (.inl ⟨by rfl, ?_⟩) ?_
      rotate_left
      · intro wy hSw; (try dsimp only at hSw); go_simp; (try with_reducible rfl)
      try simp only [Act.put, n1, n2, n3, n4, n5, n6]
      refine tk (i := 13) (v := ?_) rfl hHeld (.inl ⟨by rfl, ?_⟩) ?_
      rotate_left
      · intro wy hSw; (try dsimp only at hSw); go_simp; (try with_reducible rfl)
      try simp only [Act.put, n1, n2, n3, n4, n5, n6]
      refine tk (i := 14) (v := ?_) rfl hHeld (.inl ⟨by rfl, ?_⟩) ?_
      rotate_left
      · intro wy hSw; (try dsimp only at hSw); go_simp; (try with_reducible rfl)
      try simp only [Act.put, n1, n2, n3, n4, n5, n6]
      refine tk (i := 15) (v := ?_) rfl hHeld (.inl ⟨by rfl, ?_⟩) ?_
      rotate_left
      · intro wy hSw; (try dsimp only at hSw); go_simp; (try with_reducible rfl)
      try simp only [Act.put, n1, n2, n3, n4, n5, n6]
      refine tk (i := 16) (v := ?_) rfl hHeld (.inl ⟨by rfl, ?_⟩) ?_
      rotate_left
      · intro wy hSw; (try dsimp only at hSw); go_simp; (try with_reducible rfl)
      try simp only [Act.put, n1, n2, n3, n4, n5, n6]
      refine tk (i := 17) (v := ?_) rfl hHeld (.inl ⟨by rfl, ?_⟩) ?_
      rotate_left
      · intro wy hSw; (try dsimp only at hSw); go_simp; (try with_reducible rfl)
      try simp only [Act.put, n1, n2, n3, n4, n5, n6]
      refine tk (i := 19) (v := ?_) rfl hHeld (.inl ⟨by rfl, ?_⟩) ?_
      rotate_left
      · intro wy hSw; (try dsimp only at hSw); go_simp; (try with_reducible rfl)
      try simp only [Act.put, n1, n2, n3, n4, n5, n6]
      refine wpAnyH_ready (rs := [18]) (by kernel_rfl) (by simp) ?_
      refine AllReadyH.cons rfl (fun K hK => ?_) AllReadyH.nil
      go_simp
      refine (impl_touchedBy _).mono ?_; rintro x v6 ⟨rfl, hv6⟩; have E2 : Below W'.drew.heap.size W'.drew v6 := (by rw [hv6]; exact fbelow_new _ _); have H6 : v6.heap[W'.heap.size]? = some (txnObj p' e' s' u' xa xl xc ya yl yc) := (by rw [hv6]; exact heap_alloc_new W'.drew (txnObj p' e' s' u' xa xl xc ya yl yc)); have D2 : Below W'.heap.size W' v6 := below_tr D' E2; clear hv6
      go_wp2_with fail
      refine hK.out _ _ ?_ (fun hHeld => ?_)
      · exact ⟨fun o => fb_cell (HC.out.under D2).p o, fun o => fb_cell (HC.out.under D2).k o, fun o => fb_cell (HBX.out _ (below_tr HB0.out D2)) o, fun o => fb_cell ((D2.block _ (fb_lt HX.out)).trans HX.out) o, cell_below q0 E2, cell_below q1 E2, cell_below q2 E2, cell_below q3 E2, cell_below q4 E2, cell_below q5 E2⟩
      clear hK K
      try simp only [Act.put, n1, n2, n3, n4, n5, n6]
      refine wpAnyH_ready (rs := [20]) (by kernel_rfl) (by simp) ?_
      refine AllReadyH.cons rfl (fun K hK => ?_) AllReadyH.nil
      go_simp
      refine (HTC.out _ H6 (HFX.out.below E2).r.nums).mono ?_; rintro x v7 ⟨rfl, hv7⟩; rw [hv7]; clear hv7 v7
      go_wp2_with fail
      refine hK.out _ _ ?_ (fun hHeld => ?_)
      · exact hHeld
      clear hK K
      try simp only [Act.put, n1, n2, n3, n4, n5, n6]
      refine tk (i := 21) (v := ?_) rfl hHeld (.inl ⟨by rfl, ?_⟩) ?_
      rotate_left
      · intro wy hSw; (try dsimp only at hSw); go_simp; (try with_reducible rfl)
      try simp only [Act.put, n1, n2, n3, n4, n5, n6]
      refine tk (i := 22) (v := ?_) rfl hHeld (.inl ⟨by rfl, ?_⟩) ?_
      rotate_left
      · intro wy hSw; (try dsimp only at hSw); go_simp; (try with_reducible rfl)
      try simp only [Act.put, n1, n2, n3, n4, n5, n6]
      refine wpAnyH_done (by kernel_rfl) ?_ _
      refine onlyN_mk ?_
      clear hHeld
      clear E2 H6
      have hcc : v6.cell? ⟨w.heap.size + 1 + 1, 0, none⟩ = some (.bool false) := cell_of_heap (HC.out.under D2).r 0
      have hff := frozen_of_heap (HC.out.under D2).r 0
      gi_wp2
      exact ⟨(KeepsFrom.of_grownBy (grown_of_below D2 none) (fun j e => by cases e)).trans ((KeepsOthers.setCell _ _ _).from _), ⟨rfl, ⟨_, List.mem_append.2 (.inr (List.mem_singleton.2 rfl)), HP2.out⟩, (HC.out.under D2).no⟩, (below_tr HB0.out D2).setCell (p := ⟨w.heap.size + 1 + 1, 0, none⟩) (by show w.heap.size ≤ w.heap.size + 1 + 1; omega) _⟩
    | true =>
      refine wpIn_held_round (S := (fun x => (∀ o, x.cell? ⟨w.heap.size, o, none⟩ = (#[.pointer (some ⟨B, 0, none⟩)] : Array Value)[o]?) ∧ (∀ o, x.cell? ⟨w.heap.size + 1, o, none⟩ = (#[.int .i64 (k : Int)] : Array Value)[o]?) ∧ (∀ o, x.cell? ⟨B, o, none⟩ = (workC (some ⟨bt, offt, none⟩) tl tc M (some ⟨b, off, none⟩) rl rc ea el ec now began puts)[o]?) ∧ (∀ o, x.cell? ⟨Bx, o, none⟩ = (#[.int .i64 kk, .int .i64 ((m : Int) + 1), .string dd] : Array Value)[o]?) ∧ x.cell? ⟨bt, offt + m * 6, none⟩ = some (.int .i64 p') ∧ x.cell? ⟨bt, offt + m * 6 + 1, none⟩ = some (.int .i64 e') ∧ x.cell? ⟨bt, offt + m * 6 + 2, none⟩ = some (.int .i64 s') ∧ x.cell? ⟨bt, offt + m * 6 + 3, none⟩ = some (.int .i64 u') ∧ x.cell? ⟨bt, offt + m * 6 + 4, none⟩ = some (.slice xa xl xc) ∧ x.cell? ⟨bt, offt + m * 6 + 5, none⟩ = some (.slice ya yl yc))) (by kernel_rfl) (by kernel_rfl) (⟨fun o => fb_cell (HC.out.under D').p o, fun o => fb_cell (HC.out.under D').k o, fun o => fb_cell (HBX.out _ (below_tr HB0.out D')) o, fun o => fb_cell ((D'.block _ (fb_lt HX.out)).trans HX.out) o, q0, q1, q2, q3, q4, q5⟩) (fun hHeld => ?_)
      refine tk (i := 0) (v := ?_) rfl hHeld (.inl ⟨by rfl, ?_⟩) ?_
      rotate_left
      · intro wy hSw; (try dsimp only at hSw); go_simp; (try with_reducible rfl)
      try simp only [Act.put, n1, n2, n3, n4, n5, n6]
      refine tk (i := 1) (v := ?_) rfl hHeld (.inl ⟨by rfl, ?_⟩) ?_
      rotate_left
      · intro wy hSw; (try dsimp only at hSw); go_simp; (try with_reducible rfl)
      try simp only [Act.put, n1, n2, n3, n4, n5, n6]
      refine tk (i := 2) (v := ?_) rfl hHeld (.inl ⟨by rfl, ?_⟩) ?_
      rotate_left
      · intro wy hSw; (try dsimp only at hSw); go_simp; (try with_reducible rfl)
      try simp only [Act.put, n1, n2, n3, n4, n5, n6]
      refine tk (i := 3) (v := ?_) rfl hHeld (.inl ⟨by rfl, ?_⟩) ?_
      rotate_left
      · intro wy hSw; (try dsimp only at hSw); go_simp; (try with_reducible rfl)
      try simp only [Act.put, n1, n2, n3, n4, n5, n6]
      refine tk (i := 4) (v := ?_) rfl hHeld (.inl ⟨by rfl, ?_⟩) ?_
      rotate_left
      · intro wy hSw; (try dsimp only at hSw); go_simp; (try with_reducible rfl)
      try simp only [Act.put, n1, n2, n3, n4, n5, n6]
      refine wpAnyH_ready (rs := [5]) (by kernel_rfl) (by simp) ?_
      refine AllReadyH.cons rfl (fun K hK => ?_) AllReadyH.nil
      go_simp
      refine (impl_hasNumber (B := B) ((m : Int) + 1) _ (HBX.out _ HBW.out) htl).mono ?_; rintro x v5 ⟨rfl, hv5⟩; rw [hv5]; clear hv5 v5
      go_wp2_with fail
      refine hK.out _ _ ?_ (fun hHeld => ?_)
      · exact hHeld
      clear hK K
      try simp only [Act.put, n1, n2, n3, n4, n5, n6]
      refine tk (i := 6) (v := ?_) rfl hHeld (.inl ⟨by rfl, ?_⟩) ?_
      rotate_left
      · intro wy hSw; (try dsimp only at hSw); go_simp; (try with_reducible rfl)
      try simp only [Act.put, n1, n2, n3, n4, n5, n6]
      refine tk (i := 7) (v := ?_) rfl hHeld (.inl ⟨by rfl, ?_⟩) ?_
      rotate_left
      · intro wy hSw; (try dsimp only at hSw); go_simp; (try with_reducible rfl)
      try simp only [Act.put, n1, n2, n3, n4, n5, n6]
      refine tk (i := 8) (v := ?_) rfl hHeld (.inl ⟨by rfl, ?_⟩) ?_
      rotate_left
      · intro wy hSw; (try dsimp only at hSw); go_simp; (try with_reducible rfl)
      try simp only [Act.put, n1, n2, n3, n4, n5, n6]
      refine tk (i := 9) (v := ?_) rfl hHeld (.inl ⟨by rfl, ?_⟩) ?_
      rotate_left
      · intro wy hSw; (try dsimp only at hSw); go_simp; (try with_reducible rfl)
      try simp only [Act.put, n1, n2, n3, n4, n5, n6]
      refine tk (i := 10) (v := ?_) rfl hHeld (.inl ⟨by rfl, ?_⟩) ?_
      rotate_left
      · intro wy hSw; (try dsimp only at hSw); go_simp; (try with_reducible rfl)
      try simp only [Act.put, n1, n2, n3, n4, n5, n6]
      refine tk (i := 11) (v := ?_) rfl hHeld (.inl ⟨by rfl, ?_⟩) ?_
      rotate_left
      · intro wy hSw; (try dsimp only at hSw); go_simp; (try with_reducible rfl)
      try simp only [Act.put, n1, n2, n3, n4, n5, n6]
      refine tk (i := 12) (v := ?_) rfl hHeld (.inl ⟨by rfl, ?_⟩) ?_
      rotate_left
      · intro wy hSw; (try dsimp only at hSw); go_simp; (try with_reducible rfl)
      try simp only [Act.put, n1, n2, n3, n4, n5, n6]
      refine tk (i := 13) (v := ?_) rfl hHeld (.inl ⟨by rfl, ?_⟩) ?_
      rotate_left
      · intro wy hSw; (try dsimp only at hSw); go_simp; (try with_reducible rfl)
      try simp only [Act.put, n1, n2, n3, n4, n5, n6]
      refine tk (i := 14) (v := ?_) rfl hHeld (.inl ⟨by rfl, ?_⟩) ?_
      rotate_left
      · intro wy hSw; (try dsimp only at hSw); go_simp; (try with_reducible rfl)
      try simp only [Act.put, n1, n2, n3, n4, n5, n6]
      refine tk (i := 15) (v := ?_) rfl hHeld (.inl ⟨by rfl, ?_⟩) ?_
      rotate_left
      · intro wy hSw; (try dsimp only at hSw); go_simp; (try with_reducible rfl)
      try simp only [Act.put, n1, n2, n3, n4, n5, n6]
      refine tk (i := 16) (v := ?_) rfl hHeld (.inl ⟨by rfl, ?_⟩) ?_
      rotate_left
      · intro wy hSw; (try dsimp only at hSw); go_simp; (try with_reducible rfl)
      try simp only [Act.put, n1, n2, n3, n4, n5, n6]
      refine tk (i := 17) (v := ?_) rfl hHeld (.inl ⟨by rfl, ?_⟩) ?_
      rotate_left
      · intro wy hSw; (try dsimp only at hSw); go_simp; (try with_reducible rfl)
      try simp only [Act.put, n1, n2, n3, n4, n5, n6]
      refine tk (i := 19) (v := ?_) rfl hHeld (.inl ⟨by rfl, ?_⟩) ?_
      rotate_left
      · intro wy hSw; (try dsimp only at hSw); go_simp; (try with_reducible rfl)
      try simp only [Act.put, n1, n2, n3, n4, n5, n6]
      refine wpAnyH_ready (rs := [18]) (by kernel_rfl) (by simp) ?_
      refine AllReadyH.cons rfl (fun K hK => ?_) AllReadyH.nil
      go_simp
      refine (impl_touchedBy _).mono ?_; rintro x v6 ⟨rfl, hv6⟩; have E2 : Below W'.drew.heap.size W'.drew v6 := (by rw [hv6]; exact fbelow_new _ _); have H6 : v6.heap[W'.heap.size]? = some (txnObj p' e' s' u' xa xl xc ya yl yc) := (by rw [hv6]; exact heap_alloc_new W'.drew (txnObj p' e' s' u' xa xl xc ya yl yc)); have D2 : Below W'.heap.size W' v6 := below_tr D' E2; clear hv6
      go_wp2_with fail
      refine hK.out _ _ ?_ (fun hHeld => ?_)
      · exact ⟨fun o => fb_cell (HC.out.under D2).p o, fun o => fb_cell (HC.out.under D2).k o, fun o => fb_cell (HBX.out _ (below_tr HB0.out D2)) o, fun o => fb_cell ((D2.block _ (fb_lt HX.out)).trans HX.out) o, cell_below q0 E2, cell_below q1 E2, cell_below q2 E2, cell_below q3 E2, cell_below q4 E2, cell_below q5 E2⟩
      clear hK K
      try simp only [Act.put, n1, n2, n3, n4, n5, n6]
      refine wpAnyH_ready (rs := [20]) (by kernel_rfl) (by simp) ?_
      refine AllReadyH.cons rfl (fun K hK => ?_) AllReadyH.nil
      go_simp
      refine (HTC.out _ H6 (HFX.out.below E2).r.nums).mono ?_; rintro x v7 ⟨rfl, hv7⟩; rw [hv7]; clear hv7 v7
      go_wp2_with fail
      refine hK.out _ _ ?_ (fun hHeld => ?_)
      · exact hHeld
      clear hK K
      try simp only [Act.put, n1, n2, n3, n4, n5, n6]
      refine tk (i := 21) (v := ?_) rfl hHeld (.inl ⟨by rfl, ?_⟩) ?_
      rotate_left
      · intro wy hSw; (try dsimp only at hSw); go_simp; (try with_reducible rfl)
      try simp only [Act.put, n1, n2, n3, n4, n5, n6]
      refine tk (i := 22) (v := ?_) rfl hHeld (.inl ⟨by rfl, ?_⟩) ?_
      rotate_left
      · intro wy hSw; (try dsimp only at hSw); go_simp; (try with_reducible rfl)
      try simp only [Act.put, n1, n2, n3, n4, n5, n6]
      refine wpAnyH_done (by kernel_rfl) ?_ _
      refine onlyN_mk ?_
      clear hHeld
      gi_wp2
      exact ⟨KeepsFrom.of_grownBy (grown_of_below D2 none) (fun j e => by cases e), D2.mono (by omega), ⟨fun y hy => by
        rcases List.mem_append.1 hy with hy | hy
        · exact HPP.out y hy
        · rw [List.mem_singleton.1 hy]; exact HP2.out, Nat.le_trans hzz D2.size, HC.out.under D2⟩, below_tr HB0.out D2⟩
  case done =>
    rintro D ys W' hD rfl ⟨⟨hp, hz, hc⟩, hB⟩ hK
    have hcc : W'.cell? ⟨w.heap.size + 1 + 1, 0, none⟩ = some (.bool false) := cell_of_heap hc.r 0
    have hf := frozen_of_heap hc.r 0
    have hE : Hid (recs.all (recFitB ts (k : Int)) = true) := fitRecs_yes ts (k : Int) first recs (by rw [hlen]; exact hp)
    gi_wp2
    have hK' := (KeepsOthers.setCell W' ⟨w.heap.size + 1 + 1, 0, none⟩ (.bool true)).same D _ hK rfl
    refine ⟨by simp, .inl ⟨_, _, rfl, run_takeDeferred hK', ?_⟩⟩
    have hc5 := cell_kept (World.cell?_setCell_same' W' ⟨w.heap.size + 1 + 1, 0, none⟩ (.bool true) (by rw [hcc]; rfl)) (grownBy_putObj' _ D (.deferred none)) (fun r e => by cases e; exact ⟨_, hK', rfl⟩)
    refine ⟨.bool true, ?_, by rw [hE.out], (hB.setCell (p := ⟨w.heap.size + 1 + 1, 0, none⟩) (by show w.heap.size ≤ w.heap.size + 1 + 1; omega) _).trans (belowK_b (w := w) (Nat.le_refl _) _ D _ _ (by omega) hK' rfl rfl)⟩
    simp [results, Tryz.results190, go_sem, hc5]
  case stop =>
    rintro D c pre W' hD ⟨K, hK1, rfl⟩ ⟨⟨rfl, hex, hc⟩, hB⟩ hK
    have hcc : W'.cell? ⟨w.heap.size + 1 + 1, 0, none⟩ = some (.bool false) := cell_of_heap hc.r 0
    have hE : Hid (recs.all (recFitB ts (k : Int)) = false) := fitRecs_no ts (k : Int) first recs K (by rw [hlen]; exact hK1) hex
    gi_wp2
    refine ⟨by simp, .inl ⟨_, _, rfl, run_takeDeferred hK, ?_⟩⟩
    have hc5 := cell_kept hcc (grownBy_putObj' _ D (.deferred none)) (fun r e => by cases e; exact ⟨_, hK, rfl⟩)
    refine ⟨.bool false, ?_, by rw [hE.out], hB.trans (belowK_b (w := w) (Nat.le_refl _) W' D _ _ (by omega) hK rfl rfl)⟩
    simp [results, Tryz.results190, go_sem, hc5]
end Go.Proofs.YtahccighonddaaaGreatDoor
namespace Go.Proofs.YtahccighonddaaaGreatDoor
open Go.RowKit
attribute [local go_sem ↓] Go.wp_at_zero Go.wp_at_succ
variable {B : Nat} {ta : Option Addr} {tl tc M : Nat} {ra : Option Addr} {rl rc : Nat} {ea : Option Addr} {el ec : Nat} {now began puts : Int}
structure RA (w v : World) (B : Nat) (o : Obj) (ra : Option Addr) (rl : Nat) (ta : Option Addr) (tl : Nat) (rs : List RD) (ts : List TD) : Prop where
  box : v.heap[B]? = some o
  rs : Rngs v ra rl rs
  ts : Txs v ta tl ts
  bel : Below w.heap.size w v
theorem RA.under {w u v : World} {o : Obj} {rs : List RD} {ts : List TD} (h : RA w u B o ra rl ta tl rs ts) (hb : Below u.heap.size u v) : RA w v B o ra rl ta tl rs ts :=
  ⟨(hb.block _ (fb_lt h.box)).trans h.box, rngs_below h.rs hb, txs_below h.ts hb, below_tr h.bel hb⟩
set_option maxRecDepth 100000 in
set_option maxHeartbeats 8000000 in
theorem impl_ringsRight (rs : List RD) (ts : List TD) (w : World) (hb : w.heap[B]? = some (workO ta tl tc M ra rl rc ea el ec now began puts)) (hR : Rngs w ra rl rs) (hT : Txs w ta tl ts) (hU : ∀ t ∈ ts, upB t.rs = true ∧ upB t.ls = true) (hTb : utabs w) (htl : tl ≤ 1048576) (hrl : rl ≤ 1048576) :
    Calls Tryz.prog 135 #[.pointer (some ⟨B, 0, none⟩)] w fun x w' => x = .returned (.bool (ringsFitB ts rs)) ∧ Below w.heap.size w w' := by
  have cf := fun o => fb_cell hb o
  have H0 : Hid (RA w w B (workO ta tl tc M ra rl rc ea el ec now began puts) ra rl ta tl rs ts) := ⟨hb, hR, hT, Below.refl _ _⟩
  have HL : Hid (rs.length = rl) := hR.1
  have HLT : Hid (ts.length = tl) := hT.1
  have HU : Hid (∀ t ∈ ts, upB t.rs = true ∧ upB t.ls = true) := hU
  have HTb : Hid (utabs w) := hTb
  clear hb hR hT hU hTb
  go_enter Tryz.func135, Tryz.ntmps135
  go_wp2
  clear cf
  go_loopw [11] (fun i wr => ∃ j : Nat, j ≤ rl ∧ i = .int .i64 j ∧ Hid (ringTo ts rs j) ∧ Hid (RA w wr B (workO ta tl tc M ra rl rc ea el ec now began puts) ra rl ta tl rs ts)) (fun i _ => rl - (intOf i).toNat)
  case atStart => exact ⟨0, by omega, rfl, (fun j hj => by omega), H0.out⟩
  case round =>
    obtain ⟨j, hj, rfl, hto, hw⟩ := hrel
    clear H0
    by_cases hlt : j < rl
    · obtain ⟨b, off, r, hra, e1, g0, g1, g2, g3, hf⟩ := rngsG_at keeps_fit hw.out.rs (Below.refl _ _) hlt
      subst hra
      have HJ : Hid (rs[j]? = some r) := e1
      have H1 : Hid (RA w (wr.alloc r.obj) B (workO ta tl tc M (some ⟨b, off, none⟩) rl rc ea el ec now began puts) (some ⟨b, off, none⟩) rl ta tl rs ts) := hw.out.under (fbelow_new _ _)
      have HF1 : Hid (r.fit (wr.alloc r.obj)) := hf.out.below (fbelow_new _ _)
      clear hw hf e1
      have HY : Hid (ringFitB ts (j : Int) r = true → ringTo ts rs (j + 1)) := fun h => ringTo_succ hto.out HJ.out h
      have HN : Hid (ringFitB ts (j : Int) r = false → ringsFitB ts rs = false) := fun h => ringTo_no HJ.out h
      clear hto
      have hlen : r.recs.length = r.rl := HF1.out.str.strs.1
      go_wp2_with fail
      refine (impl_ringRight r.recs r.curs _ HF1.out.rin (utabs_below HTb.out H1.out.bel)).mono ?_
      rintro x v ⟨rfl, hbv⟩
      have H2 : Hid (RA w v B (workO ta tl tc M (some ⟨b, off, none⟩) rl rc ea el ec now began puts) (some ⟨b, off, none⟩) rl ta tl rs ts) := H1.out.under hbv
      clear hbv H1 g0 g1 g2 g3 HF1
      cases hrr : ringRightB r.cap r.first r.recs r.curs with
      | false =>
        have hE : Hid (ringsFitB ts rs = false) := HN.out (rfit_no1 hrr)
        clear hrr
        go_wp2
        go_ret
        exact ⟨ret_bool hE.out.symm, H2.out.bel⟩
      | true =>
        have HRR : Hid (ringRightB r.cap r.first r.recs r.curs = true) := hrr
        obtain ⟨hF, hC, _, _, _⟩ := right_first hrr
        have HFC : Hid ((0 ≤ r.first ∧ r.first ≤ 1000000) ∧ (-100 ≤ r.cap ∧ r.cap ≤ 100)) := ⟨hF, by omega⟩
        clear hrr hF hC
        go_wp2_with fail
        refine (impl_fabRecs j r rs ts _ H2.out.box H2.out.rs H2.out.ts HJ.out HRR.out (fun t ht => (HU.out t ht).1) (utabs_below HTb.out H2.out.bel) htl hrl).mono ?_
        rintro x v3 ⟨rfl, hbv⟩
        have H3 : Hid (RA w v3 B (workO ta tl tc M (some ⟨b, off, none⟩) rl rc ea el ec now began puts) (some ⟨b, off, none⟩) rl ta tl rs ts) := H2.out.under hbv
        clear hbv H2
        cases hal : r.recs.all (recFitB ts (j : Int)) with
        | false =>
          have hE : Hid (ringsFitB ts rs = false) := HN.out (rfit_no4 hal)
          clear hal
          go_wp2
          go_ret
          exact ⟨ret_bool hE.out.symm, H3.out.bel⟩
        | true =>
          have HAL : Hid (r.recs.all (recFitB ts (j : Int)) = true) := hal
          clear hal
          go_wp2_with fail
          refine (impl_owed (B := B) (j : Int) ts _ H3.out.box H3.out.ts htl HU.out).mono ?_
          rintro x v4 ⟨rfl, hbv⟩
          have H4 : Hid (RA w v4 B (workO ta tl tc M (some ⟨b, off, none⟩) rl rc ea el ec now began puts) (some ⟨b, off, none⟩) rl ta tl rs ts) := H3.out.under hbv
          clear hbv H3
          have hon := owedN_le ts (j : Int)
          obtain ⟨N, hN⟩ : ∃ N, owedN ts (j : Int) = N := ⟨_, rfl⟩
          have HNN : Hid (owedN ts (j : Int) = N) := hN
          rw [hN] at hon ⊢
          have hN1 : N ≤ 1048576 := by have := HLT.out; omega
          clear hN hon
          go_wp2_with fail
          refine (impl_fits j r N rs _ H4.out.box H4.out.rs HJ.out hrl hN1 HFC.out.1 HFC.out.2).mono ?_
          rintro x v5 ⟨rfl, hbv⟩
          have H5 : Hid (RA w v5 B (workO ta tl tc M (some ⟨b, off, none⟩) rl rc ea el ec now began puts) (some ⟨b, off, none⟩) rl ta tl rs ts) := H4.out.under hbv
          clear hbv H4
          by_cases hA : (N : Int) ≤ r.cap - (r.rl : Int)
          case neg =>
            have hE : Hid (ringsFitB ts rs = false) := HN.out (rfit_no2 (by rw [HNN.out, hlen]; omega))
            rw [decide_eq_false hA]
            simp only [Bool.false_and]
            clear hA
            go_wp2
            go_ret
            exact ⟨ret_bool hE.out.symm, H5.out.bel⟩
          by_cases hG : r.first + (r.rl : Int) + (N : Int) ≤ 1000000
          case neg =>
            have hE : Hid (ringsFitB ts rs = false) := HN.out (rfit_no3 (by rw [HNN.out, hlen]; exact hG))
            rw [decide_eq_false hG]
            simp only [Bool.and_false]
            clear hA hG
            go_wp2
            go_ret
            exact ⟨ret_bool hE.out.symm, H5.out.bel⟩
          have hE : Hid (ringTo ts rs (j + 1)) := HY.out (rfit_yes HRR.out (by rw [HNN.out, hlen]; omega) (by rw [HNN.out, hlen]; exact hG) HAL.out)
          rw [decide_eq_true hA, decide_eq_true hG]
          simp only [Bool.and_true]
          clear hA hG
          go_wp2
          exact ⟨⟨j + 1, by omega, by go_num, hE.out, H5.out⟩, by simp [intOf]; omega⟩
    · have hE : Hid (ringsFitB ts rs = true) := ringTo_yes (by rw [HL.out]; omega) hto.out
      clear hto
      go_wp2
      go_ret
      exact ⟨ret_bool hE.out.symm, hw.out.bel⟩
end Go.Proofs.YtahccighonddaaaGreatDoor
