/- RingAt of the program. -/
import Derived.Test.YtopbfjdjlgecpaaGreatDoorSpecAt
import Derived.Test.YtopbfjdjlgecpaaGreatDoorRingRecs
import Derived.Test.YtopbfjdjlgecpaaGreatDoorLawRingOut0
namespace Go.Proofs.YtopbfjdjlgecpaaGreatDoor
open Go.RowKit Go.Shelf
attribute [local go_sem] Oper.semAt_some
variable {cap first : Int} {ra ca : Option Addr} {rl rc cl cc : Nat}
abbrev atObj (at' : Int) : Obj := .cells #[.int .i64 at'] 2 (0, 0)
abbrev WA (w : World) (cap first : Int) (ra : Option Addr) (rl rc : Nat) (ca : Option Addr) (cl cc : Nat) (at' : Int) : World := ((w.alloc (ringObj cap first ra rl rc ca cl cc)).alloc (atObj at')).alloc outObj0
/-- The call's three boxes. -/
structure B3 (w u : World) (oR oA oX : Obj) : Prop where
  b0 : u.heap[w.heap.size]? = some oR
  b1 : u.heap[w.heap.size + 1]? = some oA
  b2 : u.heap[w.heap.size + 1 + 1]? = some oX
theorem b3_new (w : World) (oR oA oX : Obj) : B3 w (((w.alloc oR).alloc oA).alloc oX) oR oA oX := by
  refine ⟨?_, ?_, ?_⟩
  · exact (Below.heap_alloc _ _ _ (by simp; omega)).trans ((Below.heap_alloc _ _ _ (by simp)).trans (heap_alloc_new _ _))
  · have h := heap_alloc_new (w.alloc oR) oA
    rw [World.size_alloc] at h
    exact (Below.heap_alloc _ _ _ (by simp)).trans h
  · have h := heap_alloc_new ((w.alloc oR).alloc oA) oX
    rw [World.size_alloc, World.size_alloc] at h
    exact h
theorem B3.below {w u v : World} {oR oA oX : Obj} (h : B3 w u oR oA oX) (hb : Below u.heap.size u v) : B3 w v oR oA oX := ⟨blk h.b0 hb, blk h.b1 hb, blk h.b2 hb⟩
theorem B3.grown {w u v : World} {oR oA oX : Obj} {b : Nat} (h : B3 w u oR oA oX) (hg : u.grownBy v (some b)) (hb : w.heap.size + 2 < b) : B3 w v oR oA oX :=
  ⟨(hg.block _ (blk_lt h.b0) (fun e => by cases e; omega)).trans h.b0, (hg.block _ (blk_lt h.b1) (fun e => by cases e; omega)).trans h.b1, (hg.block _ (blk_lt h.b2) (fun e => by cases e; omega)).trans h.b2⟩
theorem B3.own {w u v : World} {cR cA cX : Array Value} {tR tA tX : TypeId} {row : Option Nat} (h : B3 w u (.cells cR tR (0, 0)) (.cells cA tA (0, 0)) (.cells cX tX (0, 0))) (hg : u.grownBy v row) (hr : ∀ r, row = some r → ∃ o : Obj, u.heap[r]? = some o ∧ o.isCells = false) : B3 w v (.cells cR tR (0, 0)) (.cells cA tA (0, 0)) (.cells cX tX (0, 0)) :=
  ⟨heap_own h.b0 hg hr, heap_own h.b1 hg hr, heap_own h.b2 hg hr⟩
theorem row_own {u v : World} {base e size n : Nat} {x : Value} {xs : List Value} {row : Option Nat} (h : u.ownsRow base e size x n xs) (hg : u.grownBy v row) (hr : ∀ r, row = some r → ∃ o : Obj, u.heap[r]? = some o ∧ o.isCells = false) : v.ownsRow base e size x n xs := by
  refine ⟨h.1, ?_⟩
  rcases h.2 with hn | ⟨g, cap, cur, rfl, hb, hg', rest⟩
  · exact .inl hn
  · exact .inr ⟨g, cap, cur, rfl, hb, heap_own hg' hg hr, rest⟩
theorem set8_keeps (W : World) (b : Nat) (v0 v1 v2 v3 v4 v5 v6 v7 : Value) : KeepsOthers W (set8 W b v0 v1 v2 v3 v4 v5 v6 v7) :=
  (((((((KeepsOthers.setCell W ⟨b, 0, none⟩ v0).trans (KeepsOthers.setCell _ ⟨b, 1, none⟩ v1)).trans (KeepsOthers.setCell _ ⟨b, 2, none⟩ v2)).trans (KeepsOthers.setCell _ ⟨b, 3, none⟩ v3)).trans (KeepsOthers.setCell _ ⟨b, 4, none⟩ v4)).trans (KeepsOthers.setCell _ ⟨b, 5, none⟩ v5)).trans (KeepsOthers.setCell _ ⟨b, 6, none⟩ v6)).trans (KeepsOthers.setCell _ ⟨b, 7, none⟩ v7)
/-- None of these is at that place. -/
def NotAt (at' : Int) (pre : List PRec) : Prop := ∀ y ∈ pre, y.1.1 ≠ at'
theorem notAt_snoc {at' : Int} {pre : List PRec} {x : PRec} (h : NotAt at' pre) (hx : x.1.1 ≠ at') : NotAt at' (pre ++ [x]) := fun y hy => by
  rcases List.mem_append.1 hy with hy | hy
  · exact h y hy
  · rw [List.mem_singleton.1 hy]; exact hx
theorem at_out {first at' : Int} {recs : List ByteArray} {rl : Nat} (h : NotAt at' (upto (pRec first recs) rl)) : ¬ (first ≤ at' ∧ at' ≤ first + (rl : Int) - 1) := fun hh => by
  refine h (pRec first recs (at' - first).toNat) ?_ ?_
  · unfold upto
    exact List.mem_map.2 ⟨(at' - first).toNat, List.mem_range.2 (by omega), rfl⟩
  · show first + (((at' - first).toNat : Nat) : Int) = at'
    omega
theorem at_in {first at' : Int} {recs : List ByteArray} {rl k : Nat} {y : PRec} (hk : k ≤ rl) (h : y ∈ upto (pRec first recs) k) (hy : y.1.1 = at') : (first ≤ at' ∧ at' ≤ first + (rl : Int) - 1) ∧ y.1.2.1 = (recAt recs (at' - first).toNat).1 ∧ y.1.2.2.1 = (recAt recs (at' - first).toNat).2.1 ∧ y.1.2.2.2 = (recAt recs (at' - first).toNat).2.2.1 := by
  unfold upto at h
  obtain ⟨j, hj, rfl⟩ := List.mem_map.1 h
  have hj' := List.mem_range.1 hj
  have hy' : first + (j : Int) = at' := hy
  have e : (at' - first).toNat = j := by omega
  rw [e]
  exact ⟨by omega, rfl, rfl, rfl⟩
set_option maxRecDepth 100000 in
set_option maxHeartbeats 4000000 in
theorem impl_ringAt (recs : List ByteArray) (curs : List (Int × Int)) (at' : Int) (w : World) (hi : RFit w ra rl rc ca cl cc recs curs) (hT : utabs w) :
    Calls Tryz.prog 17 #[ringV cap first ra rl rc ca cl cc, .int .i64 at'] w fun e w' => Answers w w' e (atR cap first recs curs at') := by
  have HI : Hid (RFit w ra rl rc ca cl cc recs curs) := hi
  have HT : Hid (utabs w) := hT
  have hrl : rl ≤ 1048576 := hi.rle
  have hcl : cl ≤ 1048576 := hi.cle
  have HRL : Hid (recs.length = rl) := hi.str.strs.1
  have HL : Hid (curs.length = cl) := hi.cur.curs.1
  clear hi hT
  have hB0 : Below w.heap.size w (WA w cap first ra rl rc ca cl cc at') := (((Below.refl _ _).alloc (Nat.le_refl _) _).alloc (by simp) _).alloc (by simp; omega) _
  have HB0 : Hid _ := hB0
  have H30 : Hid (B3 w (WA w cap first ra rl rc ca cl cc at') (ringObj cap first ra rl rc ca cl cc) (atObj at') outObj0) := b3_new w _ _ _
  clear hB0
  obtain ⟨R, hR⟩ : ∃ R, ringRightB cap first recs curs = R := ⟨_, rfl⟩
  have HF : Hid (atR cap first recs curs at' = if R = false then RO.ill 1 else if ¬ (first ≤ at' ∧ at' ≤ first + (rl : Int) - 1) then RO.ill 8 else ⟨cap, first, recs, curs, (recAt recs (at' - first).toNat).1, (recAt recs (at' - first).toNat).2.1, (recAt recs (at' - first).toNat).2.2.1, 0⟩) := by rw [← hR, ← HRL.out]; rfl
  have HRR : Hid (R = true → (0 ≤ first ∧ first ≤ 1000000)) := fun h => (right_first (hR.trans h)).1
  have HRB : Hid (ringRightB cap first recs curs = R) := hR
  clear hR
  refine (callsIn_wide (n := 9)).1 ?_
  refine callsIn_of_wp_marks Tryz.func17 rfl trivial ?_ rfl
  simp only [Tryz.ntmps17, List.size_toArray, List.length_cons, List.length_nil, Nat.reduceAdd, Nat.reduceSub, Array.replicate_succ, Array.replicate_zero, List.push_toArray, List.append_toArray, List.nil_append, List.cons_append]
  gi_wp2_with fail
  refine ⟨trivial, (callsIn_wide.2 (impl_atWork _)).mono ?_⟩
  rintro e w1 ⟨rfl, hb1, hw1, hz1⟩
  obtain ⟨b, hb⟩ : ∃ b, (WA w cap first ra rl rc ca cl cc at').heap.size + 1 = b := ⟨_, rfl⟩
  have hbb : w.heap.size + 2 < b := by rw [← hb]; simp
  rw [hb] at hw1 ⊢
  have H31 : Hid (B3 w w1 (ringObj cap first ra rl rc ca cl cc) (atObj at') outObj0) := H30.out.below hb1
  have HA : Hid _ := fun (_ : Unit) => impl_asked recs curs b w w1 HI.out.rin HT.out (below_tr HB0.out hb1) (by omega) hw1
  clear hb1 hw1 hz1 hb H30 HB0
  rw [HRB.out] at HA
  gi_wp2_with fail
  refine ⟨trivial, (callsIn_wide.2 (HA.out ())).mono ?_⟩
  rintro e w2 ⟨rfl, hA2, hg2⟩
  have H32 : Hid (B3 w w2 (ringObj cap first ra rl rc ca cl cc) (atObj at') outObj0) := H31.out.grown hg2 hbb
  have HB2 : Hid (Below w.heap.size w w2) := hA2.below
  obtain ⟨d, lp, hw2, _⟩ := hA2.work
  have HW2 : Hid (Work w2 b cap first ra rl rc ca cl cc d 0 lp) := hw2
  clear hA2 hg2 H31 HA hw2
  cases R
  · have hE : Hid (atR cap first recs curs at' = RO.ill 1) := HF.out.trans (if_pos rfl)
    have c2 := fun o => cell_of_block0 H32.out.b2 o
    have f2 := fun o => unfrozen_of_block0 H32.out.b2 o
    gi_wp2
    refine ⟨ringIll 1, by simp [results, Tryz.results17, go_sem, c2], ?_⟩
    rw [hE.out]
    exact ans_ill 1 HB2.out _ (by omega) _ _ _ _ _ _ _ _
  · have hF := HRR.out rfl
    have HF2 : Hid (atR cap first recs curs at' = if ¬ (first ≤ at' ∧ at' ≤ first + (rl : Int) - 1) then RO.ill 8 else ⟨cap, first, recs, curs, (recAt recs (at' - first).toNat).1, (recAt recs (at' - first).toNat).2.1, (recAt recs (at' - first).toNat).2.2.1, 0⟩) := HF.out.trans (if_neg (by simp))
    clear HF HRR
    gi_wp2_with fail
    refine ⟨trivial, (callsIn_wide.2 (impl_recs b _)).mono ?_⟩
    rintro e w3 ⟨rfl, hw3⟩
    obtain ⟨S2, hS2⟩ : ∃ S2, w2.heap.size = S2 := ⟨_, rfl⟩
    have hsz : w3.heap.size = S2 + 1 := by rw [hw3, World.size_alloc, hS2]
    have hb3 : Below w2.heap.size w2 w3 := by rw [hw3]; exact below_new _ _
    have hcB : w3.cell? ⟨S2, 0, none⟩ = some (.pointer (some ⟨b, 0, none⟩)) := by
      have h := heap_alloc_new w2 (.cells #[.pointer (some ⟨b, 0, none⟩)] 66)
      rw [← hw3, hS2] at h
      exact cell_of_heap h 0
    have H33 : Hid (B3 w w3 (ringObj cap first ra rl rc ca cl cc) (atObj at') outObj0) := H32.out.below hb3
    have HB3 : Hid (Below w.heap.size w w3) := below_tr HB2.out hb3
    have HW3 : Hid (Work w3 b cap first ra rl rc ca cl cc d 0 lp) := HW2.out.below hb3
    have hbS : b < S2 := by rw [← hS2]; exact HW2.out.lt
    rw [hS2]
    clear hw3 hb3 H32 HB2 HW2 hS2
    gi_wp2_with fail
    have HC : Hid (∀ u, Below w.heap.size w u → Calls Tryz.prog 49 #[ringV cap first ra rl rc ca cl cc] u fun e w' => ∃ a q c p, e = .returned (ringV cap first a rl q c cl p) ∧ OwnRing w' u.heap.size a rl q c cl p (recs.map Value.string) (curCells curs) ∧ Below u.heap.size u w') := fun u hb => impl_copyRing cap first ra rl rc ca cl cc recs curs u (HI.out.str.below hb) (HI.out.cur.below hb) HI.out.sz (by omega) (by omega)
    have hrn : ∀ x, ra = some x → x.block < S2 + 1 := fun x e => by have := HI.out.rin.rlt x e; omega
    refine wpIn_rangeFunc_ownH rfl (by omega) (gf := 101) (lb := #[.pointer (some ⟨S2, 0, none⟩)]) rfl trivial (enters_of Tryz.func101 (by kernel_rfl) rfl)
      (recs_stops _ S2 (S2 + 1) b (by omega) d 0 lp recs w3 (by omega) hcB (by omega) HW3.out (by omega) (strs_below HI.out.str.strs HB3.out) hrn HI.out.rin.sz' (fun W' hb => utabs_below HT.out (HB3.out.trans (hb.mono (by omega)))) hF hrl)
      belowK_t (belowK_b (by omega)) (Below.refl _ _) (fun _ => rfl)
      (fun pre W => (NotAt at' pre ∧ S2 + 1 ≤ W.heap.size ∧ B3 w W (ringObj cap first ra rl rc ca cl cc) (atObj at') outObj0) ∧ Below w.heap.size w W)
      (fun c pre W => (c = .ret ∧ ∃ (y : PRec) (a : Option Addr) (q : Nat) (c' : Option Addr) (p : Nat), y ∈ pre ∧ y.1.1 = at' ∧ W.heap[w.heap.size + 1 + 1]? = some (outObj cap first a rl q c' cl p y.1.2.1 y.1.2.2.1 y.1.2.2.2 0) ∧ OwnRing W (S2 + 1) a rl q c' cl p (recs.map Value.string) (curCells curs)) ∧ Below w.heap.size w W)
      (OwnFrom.and (fun s A B row hs hg hr => ⟨hs.1, Nat.le_trans hs.2.1 hg.size, hs.2.2.own hg (fun r e => (hr r e).2)⟩) (ownFrom_below (Nat.le_refl _) (by omega)))
      (fun c => OwnFrom.and (fun s A B row hs hg hr => by
        obtain ⟨h0, y, a, q, c', p, h1, h2, h3, h4⟩ := hs
        exact ⟨h0, y, a, q, c', p, h1, h2, heap_own h3 hg (fun r e => (hr r e).2), row_own h4.1 hg (fun r e => (hr r e).2), row_own h4.2 hg (fun r e => (hr r e).2)⟩) (ownFrom_below (Nat.le_refl _) (by omega)))
      ⟨⟨(fun y hy => by cases hy), by omega, H33.out⟩, HB3.out⟩
      (fun x a' W => ∃ Bx, S2 + 1 ≤ Bx ∧ W.heap[Bx]? = some (.cells #[.int .i64 x.1.2.1, .int .i64 x.1.2.2.1, .string x.1.2.2.2] 28 (0, 0)) ∧ a' = { tmps := #[ringV cap first ra rl rc ca cl cc, .int .i64 at', .pointer (some ⟨w.heap.size, 0, none⟩), .pointer (some ⟨w.heap.size + 1, 0, none⟩), .pointer (some ⟨w.heap.size + 1 + 1, 0, none⟩), .pointer (some ⟨b, 0, none⟩), .int .i64 x.1.1, .pointer (some ⟨Bx, 0, none⟩), .agg #[.int .i64 cap, .int .i64 first, .slice ra rl rc, .slice ca cl cc], .pointer (some ⟨b, 0, none⟩), .pointer (some ⟨b, 0, none⟩), .bool true, .bool false, undef, .pointer (some ⟨b, 0, none⟩), .func (.func 101) #[] #[.pointer (some ⟨S2, 0, none⟩)], .int .i64 x.1.1, recV x.1.2.1 x.1.2.2.1 x.1.2.2.2, undef, undef, undef, undef, undef, undef, undef, undef], defers := [] })
      (fun x a' s A B row hs hg hr => by obtain ⟨Bx, h1, h2, h3⟩ := hs; exact ⟨Bx, h1, heap_own h2 hg (fun r e => (hr r e).2), h3⟩)
      ?assign ?body ?done ?stop
    case assign =>
      rintro l pre x W K ⟨⟨hp, hz, h3⟩, hB⟩ hK
      gi_wp2
      exact hK _ _ ((KeepsOthers.alloc _ _).from _) ((Below.refl _ W).alloc hz _) ⟨⟨hp, by simp; omega, h3.below (below_new _ _)⟩, hB.alloc (by omega) _⟩ ⟨W.heap.size, hz, heap_alloc_new _ _, rfl⟩
    case body =>
      rintro l pre ⟨⟨pl, k, t, dd⟩, hd⟩ a' W _ _ ⟨⟨hp, hz, h3⟩, hB⟩ ⟨Bx, hBx, hX, rfl⟩ _
      have H3 : Hid (B3 w W (ringObj cap first ra rl rc ca cl cc) (atObj at') outObj0) := h3
      have HB : Hid (Below w.heap.size w W) := hB
      have HX : Hid _ := hX
      have HP : Hid (NotAt at' pre) := hp
      have cX := fun o => cell_of_block0 hX o
      have cA := fun o => cell_of_block0 h3.b1 o
      have cR := fun o => cell_of_block0 h3.b0 o
      have h1 : 1 ≤ 9 - 1 - 1 := by omega
      clear h3 hB hX hp
      by_cases hat : pl = at'
      · have hpe : (pl == at') = true := by simp [hat]
        have hmx : Tryz.prog.follows .mixedOrders = true := by kernel_rfl
        have hzb : w.heap.size + 1 + 1 < S2 + 1 := by omega
        gi_wp2
        gi_region_with_o (first | (refine ⟨trivial, ?_⟩; gi_at_call 49; refine (CallsIn.inRound l (callsIn_wide.2 (HC.out _ HB.out.drew))).mono ?_; rintro e w5 ⟨a5, q5, c5, p5, rfl, ho5, hb5⟩; have HO5 : Hid (OwnRing w5 (S2 + 1) a5 rl q5 c5 cl p5 (recs.map Value.string) (curCells curs)) := ⟨ho5.1.mono hz, ho5.2.mono hz⟩; have HW5 : Hid (Below W.heap.size W w5) := below_tr ((Below.refl _ _).drew) hb5; have cX := fun o => cell_of_block0 (blk HX.out HW5.out) o; have cO := fun o => cell_of_block0 (blk H3.out.b2 HW5.out) o; have fO := fun o => unfrozen_of_block0 (blk H3.out.b2 HW5.out) o; clear ho5 hb5))
        all_goals gi_wp2
        all_goals exact ⟨(KeepsFrom.of_grownBy (grown_of_below HW5.out none) (fun j e => by cases e)).trans ((set8_keeps w5 (w.heap.size + 1 + 1) _ _ _ _ _ _ _ _).from _), ⟨rfl, ⟨(pl, k, t, dd), hd⟩, a5, q5, c5, p5, List.mem_append.2 (.inr (List.mem_singleton.2 rfl)), hat, at_box (blk H3.out.b2 HW5.out), own_set8 HO5.out.1 _ hzb _ _ _ _ _ _ _ _, own_set8 HO5.out.2 _ hzb _ _ _ _ _ _ _ _⟩, below_set8 (below_tr HB.out HW5.out) _ (by omega) _ _ _ _ _ _ _ _⟩
      · have hpe : (pl == at') = false := by simp [hat]
        gi_wp2
        exact ⟨(KeepsOthers.refl _).from _, Below.refl _ _, ⟨notAt_snoc HP.out hat, hz, H3.out⟩, HB.out⟩
    case done =>
      rintro D ys W hD rfl ⟨⟨hp, hz, h3⟩, hB⟩ hK
      have hE : Hid (atR cap first recs curs at' = RO.ill 8) := HF2.out.trans (if_pos (at_out hp))
      have cO := fun o => cell_of_block0 h3.b2 o
      have fO := fun o => unfrozen_of_block0 h3.b2 o
      have H3 : Hid (B3 w W (ringObj cap first ra rl rc ca cl cc) (atObj at') outObj0) := h3
      clear h3 hp
      gi_wp2
      have hK' := (set8_keeps W (w.heap.size + 1 + 1) (.int .i64 0) (.int .i64 0) (.slice none 0 0) (.slice none 0 0) (.int .i64 0) (.int .i64 0) (.string ⟨#[]⟩) (.int .i64 8)).same D _ hK rfl
      refine ⟨by simp, .inl ⟨_, _, rfl, run_takeDeferred hK', ?_⟩⟩
      have hbx := heap_own (at_box (v0 := .int .i64 0) (v1 := .int .i64 0) (v2 := .slice none 0 0) (v3 := .slice none 0 0) (v4 := .int .i64 0) (v5 := .int .i64 0) (v6 := .string ⟨#[]⟩) (v7 := .int .i64 8) H3.out.b2) (grownBy_putObj' _ D (.deferred none)) (fun r e => by cases e; exact ⟨_, hK', rfl⟩)
      have cx := fun o => cell_of_block0 hbx o
      refine ⟨ringIll 8, by simp [results, Tryz.results17, go_sem, cx], ?_⟩
      rw [hE.out]
      exact ans_ill0 8 ((below_set8 hB _ (by omega) _ _ _ _ _ _ _ _).trans (belowK_b (w := w) (Nat.le_refl _) _ D _ _ (by omega) hK' rfl rfl))
    case stop =>
      rintro D c pre W hD ⟨k, hk, rfl⟩ ⟨⟨rfl, y, a, q, c', p, hy, hyat, hbx, hown⟩, hB⟩ hK
      obtain ⟨hin, e1, e2, e3⟩ := at_in hk hy hyat
      have hE : Hid (atR cap first recs curs at' = ⟨cap, first, recs, curs, y.1.2.1, y.1.2.2.1, y.1.2.2.2, 0⟩) := by
        rw [e1, e2, e3]
        exact HF2.out.trans (if_neg (by simp only [Decidable.not_not]; exact hin))
      gi_wp2
      refine ⟨by simp, .inl ⟨_, _, rfl, run_takeDeferred hK, ?_⟩⟩
      have hg := grownBy_putObj' W D (.deferred none)
      have hr : ∀ r, some D = some r → ∃ o : Obj, W.heap[r]? = some o ∧ o.isCells = false := fun r e => by cases e; exact ⟨_, hK, rfl⟩
      have cx := fun o => cell_of_block0 (heap_own hbx hg hr) o
      refine ⟨ringOutV cap first a rl q c' cl p y.1.2.1 y.1.2.2.1 y.1.2.2.2 0, by simp [results, Tryz.results17, go_sem, cx], ?_⟩
      rw [hE.out]
      have hl := HL.out
      have hrr := HRL.out
      subst hl hrr
      exact ⟨a, q, c', p, rfl, ⟨(row_own hown.1 hg hr).mono (by omega), (row_own hown.2 hg hr).mono (by omega)⟩, hB.trans (belowK_b (w := w) (Nat.le_refl _) W D _ _ (by omega) hK rfl rfl)⟩
end Go.Proofs.YtopbfjdjlgecpaaGreatDoor
