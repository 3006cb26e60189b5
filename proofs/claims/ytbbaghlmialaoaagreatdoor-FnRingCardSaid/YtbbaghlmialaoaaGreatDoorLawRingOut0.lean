import Derived.Test.YtbbaghlmialaoaaGreatDoorRingCopy
import Derived.Test.YtbbaghlmialaoaaGreatDoorRingAsk
import Derived.Test.YtbbaghlmialaoaaGreatDoorRingWork6
import Derived.Test.YtbbaghlmialaoaaGreatDoorLawRingAsk
/- What is answered of a ring: the ring, a record, a code; and the small makers of rings. -/
namespace Go.Proofs.YtbbaghlmialaoaaGreatDoor
open Go.RowKit
variable {cap first : Int} {ra ca : Option Addr} {rl rc cl cc : Nat}

/-- An answer. -/
structure RO where
  cap : Int
  first : Int
  recs : List ByteArray
  curs : List (Int × Int)
  k : Int
  t : Int
  d : ByteArray
  c : Int
/-- What is answered beside a code. -/
def RO.ill (c : Int) : RO := ⟨0, 0, [], [], 0, 0, ⟨#[]⟩, c⟩
/-- A ring alone. -/
def RO.ring (cap first : Int) (recs : List ByteArray) (curs : List (Int × Int)) : RO := ⟨cap, first, recs, curs, 0, 0, ⟨#[]⟩, 0⟩
/-- A call has answered r, in memory of its own; nothing old has turned. -/
def Answers (w w' : World) (e : Ending) (r : RO) : Prop :=
  ∃ a q b p, e = .returned (ringOutV r.cap r.first a r.recs.length q b r.curs.length p r.k r.t r.d r.c) ∧ OwnRing w' w.heap.size a r.recs.length q b r.curs.length p (r.recs.map Value.string) (curCells r.curs) ∧ Below w.heap.size w w'
abbrev outObj0 : Obj := .cells #[.int .i64 0, .int .i64 0, .slice none 0 0, .slice none 0 0, .int .i64 0, .int .i64 0, .string ⟨#[]⟩, .int .i64 0] 32 (0, 0)
abbrev set8 (w : World) (b : Nat) (v0 v1 v2 v3 v4 v5 v6 v7 : Value) : World := (((((((w.setCell ⟨b, 0, none⟩ v0).setCell ⟨b, 1, none⟩ v1).setCell ⟨b, 2, none⟩ v2).setCell ⟨b, 3, none⟩ v3).setCell ⟨b, 4, none⟩ v4).setCell ⟨b, 5, none⟩ v5).setCell ⟨b, 6, none⟩ v6).setCell ⟨b, 7, none⟩ v7
theorem own_set8 {w : World} {base e size n : Nat} {v : Value} {xs : List Value} (h : w.ownsRow base e size v n xs) (b : Nat) (hb : b < base) (v0 v1 v2 v3 v4 v5 v6 v7 : Value) : (set8 w b v0 v1 v2 v3 v4 v5 v6 v7).ownsRow base e size v n xs :=
  ownsRow_setCell_below (ownsRow_setCell_below (ownsRow_setCell_below (ownsRow_setCell_below (ownsRow_setCell_below (ownsRow_setCell_below (ownsRow_setCell_below (ownsRow_setCell_below h (a := ⟨b, 0, none⟩) hb _) (a := ⟨b, 1, none⟩) hb _) (a := ⟨b, 2, none⟩) hb _) (a := ⟨b, 3, none⟩) hb _) (a := ⟨b, 4, none⟩) hb _) (a := ⟨b, 5, none⟩) hb _) (a := ⟨b, 6, none⟩) hb _) (a := ⟨b, 7, none⟩) hb _
theorem ans_ill {w w1 : World} (c : Int) (hB : Below w.heap.size w w1) (b : Nat) (hb : w.heap.size ≤ b) (v0 v1 v2 v3 v4 v5 v6 v7 : Value) : Answers w (set8 w1 b v0 v1 v2 v3 v4 v5 v6 v7) (.returned (ringIll c)) (RO.ill c) :=
  ⟨none, 0, none, 0, rfl, ⟨World.ownsRow_nil _ _ _ _, World.ownsRow_nil _ _ _ _⟩, below_set8 hB b hb _ _ _ _ _ _ _ _⟩
theorem ans_ill0 {w w1 : World} (c : Int) (hB : Below w.heap.size w w1) : Answers w w1 (.returned (ringIll c)) (RO.ill c) :=
  ⟨none, 0, none, 0, rfl, ⟨World.ownsRow_nil _ _ _ _, World.ownsRow_nil _ _ _ _⟩, hB⟩
theorem ans_ring {w w1 : World} {base : Nat} (r : RO) {a : Option Addr} {q : Nat} {c : Option Addr} {p : Nat} (ho : OwnRing w1 base a r.recs.length q c r.curs.length p (r.recs.map Value.string) (curCells r.curs)) (hB : Below w.heap.size w w1) (b : Nat) (hb : w.heap.size ≤ b) (hbb : b < base) (v0 v1 v2 v3 v4 v5 v6 v7 : Value) :
    Answers w (set8 w1 b v0 v1 v2 v3 v4 v5 v6 v7) (.returned (ringOutV r.cap r.first a r.recs.length q c r.curs.length p r.k r.t r.d r.c)) r :=
  ⟨a, q, c, p, rfl, ⟨(own_set8 ho.1 b hbb _ _ _ _ _ _ _ _).mono (by omega), (own_set8 ho.2 b hbb _ _ _ _ _ _ _ _).mono (by omega)⟩, below_set8 hB b hb _ _ _ _ _ _ _ _⟩
/-- What is handed in of a ring, fit to be cut. -/
structure RFit (w : World) (ra : Option Addr) (rl rc : Nat) (ca : Option Addr) (cl cc : Nat) (recs : List ByteArray) (curs : List (Int × Int)) : Prop where
  str : StrIn w ra rl rc recs
  cur : CurIn w ca cl cc curs
  sz : ∀ s ∈ recs, s.size ≤ 1048576
  rle : rl ≤ 1048576
  cle : cl ≤ 1048576
  rcm : rc ≤ maxLen
  ccm : cc ≤ maxLen
theorem StrIn.below {w w' : World} {a : Option Addr} {n c : Nat} {l : List ByteArray} (h : StrIn w a n c l) (hb : Below w.heap.size w w') : StrIn w' a n c l := ⟨strs_below h.strs hb, fun x e => Nat.lt_of_lt_of_le (h.lt x e) hb.size, h.nil, h.cap, h.off⟩
theorem CurIn.below {w w' : World} {a : Option Addr} {n c : Nat} {l : List (Int × Int)} (h : CurIn w a n c l) (hb : Below w.heap.size w w') : CurIn w' a n c l := ⟨curs_below h.curs hb, fun x e => Nat.lt_of_lt_of_le (h.lt x e) hb.size, h.nil, h.cap, h.off⟩
theorem RFit.below {w w' : World} {recs : List ByteArray} {curs : List (Int × Int)} (h : RFit w ra rl rc ca cl cc recs curs) (hb : Below w.heap.size w w') : RFit w' ra rl rc ca cl cc recs curs := ⟨h.str.below hb, h.cur.below hb, h.sz, h.rle, h.cle, h.rcm, h.ccm⟩
theorem RFit.rin {w : World} {recs : List ByteArray} {curs : List (Int × Int)} (h : RFit w ra rl rc ca cl cc recs curs) : RIn w ra rl rc ca cl cc recs curs := ⟨h.str.strs, h.cur.curs, h.str.lt, h.cur.lt, h.str.nil, h.cur.nil, h.sz, h.rle, h.cle⟩
set_option maxHeartbeats 1000000 in
theorem impl_withCursors (b : Nat) (d st l : Int) (a : Option Addr) (n c : Nat) (w : World) (hw : Work w b cap first ra rl rc ca cl cc d st l) :
    Calls Tryz.prog 55 #[.pointer (some ⟨b, 0, none⟩), .slice a n c] w fun e w' => e = .returned (ringV cap first ra rl rc a n c) ∧ Below w.heap.size w w' := by
  obtain ⟨c0, c1, c2, c3, c4, c5, c6, c7⟩ := work_cells hw
  have hlt := hw.lt
  go_enter Tryz.func55, Tryz.ntmps55
  go_wp2
  exact bodyPost_ret (v := ringV cap first ra rl rc a n c) (by simp [results, Tryz.results55, go_sem]) rfl ⟨rfl, ((Below.refl _ _).alloc (Nat.le_refl _) _).alloc (by simp) _⟩
end Go.Proofs.YtbbaghlmialaoaaGreatDoor
/- Follow of the program. -/
namespace Go.Proofs.YtbbaghlmialaoaaGreatDoor
open Go.RowKit
variable {cap first : Int} {ra ca : Option Addr} {rl rc cl cc : Nat}

def followR (cap first : Int) (recs : List ByteArray) (curs : List (Int × Int)) (g : Int) : RO :=
  if ringRightB cap first recs curs = false ∨ ¬ (1 ≤ g ∧ g ≤ 9) then RO.ill 1 else if findB g curs = true then RO.ill 7 else if curs.length = 4 then RO.ill 9
  else RO.ring cap first recs (curs.take (findK g curs) ++ (g, first) :: curs.drop (findK g curs))
theorem findK_le (g : Int) (l : List (Int × Int)) : findK g l ≤ l.length := by
  unfold findK
  exact List.findIdx_le_length
/-- The world ahead of a ring's work: its box, and the answer's. -/
abbrev W2 (w : World) (cap first : Int) (ra : Option Addr) (rl rc : Nat) (ca : Option Addr) (cl cc : Nat) : World := (w.alloc (ringObj cap first ra rl rc ca cl cc)).alloc outObj0
theorem w2_below (w : World) (cap first : Int) (ra : Option Addr) (rl rc : Nat) (ca : Option Addr) (cl cc : Nat) : Below w.heap.size w (W2 w cap first ra rl rc ca cl cc) := ((Below.refl _ _).alloc (Nat.le_refl _) _).alloc (by simp) _
theorem w2_size (w : World) (cap first : Int) (ra : Option Addr) (rl rc : Nat) (ca : Option Addr) (cl cc : Nat) : (W2 w cap first ra rl rc ca cl cc).heap.size = w.heap.size + 2 := by simp
theorem keep_blocks {u u1 u2 : World} {b : Nat} (hb : Below u.heap.size u u1) (hg : u1.grownBy u2 (some b)) (h : u.heap.size ≤ b) : Below u.heap.size u u2 := hb.grown hg hb.size (fun k e => by cases e; exact h)
set_option maxRecDepth 100000 in
set_option maxHeartbeats 4000000 in
theorem impl_follow (recs : List ByteArray) (curs : List (Int × Int)) (g : Int) (w : World) (hi : RFit w ra rl rc ca cl cc recs curs) (hT : utabs w) :
    Calls Tryz.prog 20 #[ringV cap first ra rl rc ca cl cc, .int .i64 g] w fun e w' => Answers w w' e (followR cap first recs curs g) := by
  have HI : Hid (RFit w ra rl rc ca cl cc recs curs) := hi
  have HT : Hid (utabs w) := hT
  have hcl : cl ≤ 1048576 := hi.cle
  have HL : Hid (curs.length = cl) := hi.cur.curs.1
  have HRL : Hid (recs.length = rl) := hi.str.strs.1
  clear hi hT
  have HB0 : Hid (Below w.heap.size w (W2 w cap first ra rl rc ca cl cc)) := w2_below ..
  go_enter Tryz.func20, Tryz.ntmps20
  go_wp2_with fail
  refine (impl_atWork _).mono ?_
  rintro e w1 ⟨rfl, hb1, hw1, hz1⟩
  obtain ⟨b, hb⟩ : ∃ b, (W2 w cap first ra rl rc ca cl cc).heap.size + 1 = b := ⟨_, rfl⟩
  have hbb : w.heap.size + 2 ≤ b := by rw [← hb]; simp
  rw [hb] at hw1 ⊢
  have HA : Hid _ := fun (_ : Unit) => impl_asked recs curs b w w1 HI.out.rin HT.out (below_tr HB0.out hb1) (by omega) hw1
  have HK : Hid (∀ w2, w1.grownBy w2 (some b) → Below (W2 w cap first ra rl rc ca cl cc).heap.size (W2 w cap first ra rl rc ca cl cc) w2) := fun w2 hg => keep_blocks hb1 hg (by simp; omega)
  clear hb1 hw1 hz1 hb
  obtain ⟨r, hr⟩ : ∃ r, followR cap first recs curs g = r := ⟨_, rfl⟩
  obtain ⟨R, hR⟩ : ∃ R, ringRightB cap first recs curs = R := ⟨_, rfl⟩
  have HF : Hid _ := hr
  unfold followR at HF
  rw [hR] at HA HF
  have HRR : Hid (R = true → (0 ≤ first ∧ first ≤ 1000000) ∧ curs.length ≤ 4) := fun h => by have := right_first (hR.trans h); exact ⟨this.1, this.2.2.2.2⟩
  have HGO : Hid (followR cap first recs curs g = r) := hr
  clear hr hR
  go_wp2_with fail
  refine (HA.out ()).mono ?_
  rintro e w2 ⟨rfl, hA2, hg2⟩
  have HA2 : Hid (Asked w w2 b cap first ra rl rc ca cl cc curs) := hA2
  have HW2 : Hid (Below (W2 w cap first ra rl rc ca cl cc).heap.size (W2 w cap first ra rl rc ca cl cc) w2) := HK.out w2 hg2
  clear hA2 hg2 HA HK
  have hc2 := fun o => HW2.out.cell (p := ⟨w.heap.size + 1, o, none⟩) (by simp)
  have hf2 := fun o => HW2.out.frozen (p := ⟨w.heap.size + 1, o, none⟩) (by simp)
  cases R
  · have hE : Hid (followR cap first recs curs g = RO.ill 1) := HGO.out.trans (HF.out.symm.trans (if_pos (.inl rfl)))
    clear HF
    go_wp2
    refine bodyPost_ret (v := ringIll 1) (by simp [results, Tryz.results20, go_sem, hc2]) rfl ?_
    rw [hE.out]
    exact ans_ill 1 HA2.out.below _ (by omega) _ _ _ _ _ _ _ _
  · have HRT := HRR.out rfl
    have HFT : Hid (0 ≤ first ∧ first ≤ 1000000) := HRT.1
    have HCL : Hid (curs.length ≤ 4) := HRT.2
    clear HRT HRR
    obtain ⟨d, l, hW, hK⟩ := HA2.out.work
    have HW : Hid (Work w2 b cap first ra rl rc ca cl cc d 0 l) := hW
    clear hW hK
    have HGR : Hid _ := fun w => impl_group g w
    by_cases hG : 1 ≤ g ∧ g ≤ 9
    · rw [decide_eq_true hG] at HGR
      have HF2 : Hid ((if findB g curs = true then RO.ill 7 else if curs.length = 4 then RO.ill 9 else RO.ring cap first recs (curs.take (findK g curs) ++ (g, first) :: curs.drop (findK g curs))) = r) := by
        have h := HF.out
        rw [if_neg (by simp; exact hG)] at h
        exact h
      clear HF hG
      go_wp2_with fail
      refine (HGR.out _).mono ?_
      rintro e w3 ⟨rfl, hw3⟩
      rw [hw3]
      clear hw3 w3
      have HFO : Hid _ := fun (_ : Unit) => impl_follower b d 0 l g curs w2 HW.out (curs_below HI.out.cur.curs HA2.out.below) hcl
      have hkl := findK_le g curs
      have HKL : Hid (findK g curs ≤ cl) := by rw [← HL.out]; exact hkl
      clear hkl
      obtain ⟨K, hKe⟩ : ∃ K, findK g curs = K := ⟨_, rfl⟩
      obtain ⟨T, hTe⟩ : ∃ T, findB g curs = T := ⟨_, rfl⟩
      rw [hKe] at HFO HF2 HKL
      rw [hTe] at HFO HF2
      clear hKe hTe
      go_wp2_with fail
      refine (HFO.out ()).mono ?_
      rintro e w3 ⟨rfl, hb3⟩
      have HB3 : Hid (Below w.heap.size w w3) := below_tr HA2.out.below hb3
      have HW3 : Hid (Below (W2 w cap first ra rl rc ca cl cc).heap.size (W2 w cap first ra rl rc ca cl cc) w3) := below_tr HW2.out hb3
      have HWk3 : Hid (Work w3 b cap first ra rl rc ca cl cc d 0 l) := HW.out.below hb3
      clear hb3 HW hc2 hf2 HFO HGR
      have hc3 := fun o => HW3.out.cell (p := ⟨w.heap.size + 1, o, none⟩) (by simp)
      have hf3 := fun o => HW3.out.frozen (p := ⟨w.heap.size + 1, o, none⟩) (by simp)
      have hd3 := fun o => HW3.out.cell (p := ⟨w.heap.size, o, none⟩) (by simp only [World.size_alloc]; omega)
      cases T
      · by_cases h4 : cl = 4
        · have h4b : ((cl : Int) == 4) = true := by rw [beq_iff_eq]; omega
          have hE : Hid (followR cap first recs curs g = RO.ill 9) := HGO.out.trans (HF2.out.symm.trans (by rw [if_neg (by simp), if_pos (by rw [HL.out]; exact h4)]))
          clear HF2 h4
          go_wp2
          refine bodyPost_ret (v := ringIll 9) (by simp [results, Tryz.results20, go_sem, hc3]) rfl ?_
          rw [hE.out]
          exact ans_ill 9 HB3.out _ (by omega) _ _ _ _ _ _ _ _
        · have h4b : ((cl : Int) == 4) = false := by rw [beq_eq_false_iff_ne]; omega
          have hE : Hid (followR cap first recs curs g = RO.ring cap first recs (curs.take K ++ (g, first) :: curs.drop K)) := HGO.out.trans (HF2.out.symm.trans (by rw [if_neg (by simp), if_neg (by rw [HL.out]; exact h4)]))
          clear HF2 h4
          have hKc := HKL.out
          go_wp2_with fail
          refine (impl_withC ca cl cc K curs g first _ (HI.out.cur.below HB3.out) hKc HI.out.ccm hcl).mono ?_
          rintro e w4 ⟨a4, c4, rfl, hci4, hb4⟩
          have HC4 : Hid (CurIn w4 a4 (cl + 1) c4 (curs.take K ++ (g, first) :: curs.drop K)) := hci4
          have HB4 : Hid (Below w.heap.size w w4) := below_tr HB3.out hb4
          have HW4 : Hid (Below (W2 w cap first ra rl rc ca cl cc).heap.size (W2 w cap first ra rl rc ca cl cc) w4) := below_tr HW3.out hb4
          have HWk4 : Hid (Work w4 b cap first ra rl rc ca cl cc d 0 l) := HWk3.out.below hb4
          clear hci4 hb4 HWk3
          go_wp2_with fail
          refine (impl_withCursors b d 0 l a4 (cl + 1) c4 _ HWk4.out).mono ?_
          rintro e w5 ⟨rfl, hb5⟩
          have HC5 : Hid (CurIn w5 a4 (cl + 1) c4 (curs.take K ++ (g, first) :: curs.drop K)) := HC4.out.below hb5
          have HB5 : Hid (Below w.heap.size w w5) := below_tr HB4.out hb5
          have HW5 : Hid (Below (W2 w cap first ra rl rc ca cl cc).heap.size (W2 w cap first ra rl rc ca cl cc) w5) := below_tr HW4.out hb5
          have hz5 : w.heap.size + 1 < w5.heap.size := by have h := HW5.out.size; simp at h; omega
          clear hb5 HC4 HWk4
          go_wp2_with fail
          refine (impl_copyRing cap first ra rl rc a4 (cl + 1) c4 recs (curs.take K ++ (g, first) :: curs.drop K) _ (HI.out.str.below HB5.out) HC5.out HI.out.sz (by have := HI.out.rle; omega) (by omega)).mono ?_
          rintro e w6 ⟨a, q, c, p, rfl, ho6, hb6⟩
          have HB6 : Hid (Below w.heap.size w w6) := below_tr HB5.out hb6
          have HW6 : Hid (Below (W2 w cap first ra rl rc ca cl cc).heap.size (W2 w cap first ra rl rc ca cl cc) w6) := below_tr HW5.out hb6
          have HO6 : Hid (OwnRing w6 w5.heap.size a rl q c (cl + 1) p (recs.map Value.string) (curCells (curs.take K ++ (g, first) :: curs.drop K))) := ho6
          clear hb6 ho6 hc3 hf3 hd3
          have hc6 := fun o => HW6.out.cell (p := ⟨w.heap.size + 1, o, none⟩) (by simp)
          have hf6 := fun o => HW6.out.frozen (p := ⟨w.heap.size + 1, o, none⟩) (by simp)
          go_wp2
          refine bodyPost_ret (v := ringOutV cap first a rl q c (cl + 1) p 0 0 ⟨#[]⟩ 0) (by simp [results, Tryz.results20, go_sem, hc6]) rfl ?_
          rw [hE.out]
          have hlen : (curs.take K ++ (g, first) :: curs.drop K).length = cl + 1 := by
            have h1 := HL.out
            simp
            omega
          have h := ans_ring (w := w) (RO.ring cap first recs (curs.take K ++ (g, first) :: curs.drop K)) (a := a) (q := q) (c := c) (p := p) (base := w5.heap.size) (w1 := w6) (by
            show OwnRing _ _ _ recs.length _ _ (curs.take K ++ (g, first) :: curs.drop K).length _ _ _
            rw [HRL.out, hlen]
            exact HO6.out) HB6.out (w.heap.size + 1) (by omega) hz5 (.int .i64 cap) (.int .i64 first) (.slice a rl q) (.slice c (cl + 1) p) (.int .i64 0) (.int .i64 0) (.string ⟨#[]⟩) (.int .i64 0)
          have e2 : ringOutV (RO.ring cap first recs (curs.take K ++ (g, first) :: curs.drop K)).cap (RO.ring cap first recs (curs.take K ++ (g, first) :: curs.drop K)).first a (RO.ring cap first recs (curs.take K ++ (g, first) :: curs.drop K)).recs.length q c (RO.ring cap first recs (curs.take K ++ (g, first) :: curs.drop K)).curs.length p 0 0 ⟨#[]⟩ 0 = ringOutV cap first a rl q c (cl + 1) p 0 0 ⟨#[]⟩ 0 := by
            show ringOutV cap first a recs.length q c (curs.take K ++ (g, first) :: curs.drop K).length p 0 0 ⟨#[]⟩ 0 = _
            rw [HRL.out, hlen]
          rw [← e2]
          exact h
      · have hE : Hid (followR cap first recs curs g = RO.ill 7) := HGO.out.trans (HF2.out.symm.trans (if_pos rfl))
        clear HF2
        go_wp2
        refine bodyPost_ret (v := ringIll 7) (by simp [results, Tryz.results20, go_sem, hc3]) rfl ?_
        rw [hE.out]
        exact ans_ill 7 HB3.out _ (by omega) _ _ _ _ _ _ _ _
    · rw [decide_eq_false hG] at HGR
      have hE : Hid (followR cap first recs curs g = RO.ill 1) := HGO.out.trans (HF.out.symm.trans (if_pos (.inr hG)))
      clear HF hG
      go_wp2_with fail
      refine (HGR.out _).mono ?_
      rintro e w3 ⟨rfl, hw3⟩
      rw [hw3]
      clear hw3 w3
      go_wp2
      refine bodyPost_ret (v := ringIll 1) (by simp [results, Tryz.results20, go_sem, hc2]) rfl ?_
      rw [hE.out]
      exact ans_ill 1 HA2.out.below _ (by omega) _ _ _ _ _ _ _ _
end Go.Proofs.YtbbaghlmialaoaaGreatDoor
/- A ring at work without what all have passed. -/
namespace Go.Proofs.YtbbaghlmialaoaaGreatDoor
open Go.RowKit
attribute [local go_sem ↓] Go.wp_at_zero Go.wp_at_succ
variable {cap first : Int} {ra ca : Option Addr} {rl rc cl cc : Nat}

/-- While what has passed is cut away: the answer's box, the copy's, the ring at work. -/
structure Passing (w wr : World) (b : Nat) (cap first : Int) (ra : Option Addr) (rl rc : Nat) (ca : Option Addr) (cl cc : Nat) (f' : Int) (ra' : Option Addr) (rl' rc' : Nat) (L : Int) : Prop where
  b0 : wr.heap[w.heap.size]? = some (ringObj 0 0 none 0 0 none 0 0)
  b1 : wr.heap[w.heap.size + 1]? = some (ringObj cap f' ra' rl' rc' ca cl cc)
  work : Work wr b cap first ra rl rc ca cl cc 1 0 L
  grown : w.grownBy wr (some b)
theorem passed_num (first : Int) (P : Nat) (hP : P ≤ 1048577) : IntKind.i64.wrap (first + (P : Int) - first) = (P : Int) := by
  rw [show first + (P : Int) - first = (P : Int) by omega]
  exact i64_wrap_in _ (by omega) (by omega)
theorem passing_start {w W0 w1 : World} {b : Nat} {L : Int} (hB : Below w.heap.size w W0) (hq : W0.heap[w.heap.size]? = some (ringObj 0 0 none 0 0 none 0 0) ∧ W0.heap[w.heap.size + 1]? = some (ringObj cap first ra rl rc ca cl cc)) (hW : Work w1 b cap first ra rl rc ca cl cc 1 0 L) (hg : W0.grownBy w1 (some b)) (hb : b < w.heap.size) (hz : w.heap.size + 2 ≤ W0.heap.size) : Passing w w1 b cap first ra rl rc ca cl cc first ra rl rc L :=
  ⟨(hg.block _ (by omega) (by simp; omega)).trans hq.1, (hg.block _ (by omega) (by simp; omega)).trans hq.2, hW, (grown_of_below hB _).trans hg⟩
theorem passing_cut {w wc : World} {b : Nat} {L : Int} (h : Passing w wc b cap first ra rl rc ca cl cc first ra rl rc L) (hb : b < w.heap.size) (a : Option Addr) (n c : Nat) : Passing w (wc.setCell ⟨w.heap.size + 1, 2, none⟩ (.slice a n c)).drew b cap first ra rl rc ca cl cc first a n c L :=
  ⟨(Below.heap_setCell wc ⟨w.heap.size + 1, 2, none⟩ (.slice a n c) w.heap.size (show w.heap.size ≠ w.heap.size + 1 by omega)).trans h.b0,
   heap_setCell_same wc (w.heap.size + 1) 2 _ _ (.slice a n c) h.b1,
   (Below.heap_setCell wc ⟨w.heap.size + 1, 2, none⟩ (.slice a n c) b (show b ≠ w.heap.size + 1 by omega)).trans h.work,
   (h.grown.andThen (grown_setc _ (w.heap.size + 1) 2 _) (fun j e => by cases e; exact .inl (by omega))).trans (grown_drewc _ _)⟩
set_option maxRecDepth 100000 in
set_option maxHeartbeats 4000000 in
theorem impl_withoutPassed (b : Nat) (d l : Int) (recs : List ByteArray) (curs : List (Int × Int)) (P : Nat) (w : World) (hw : Work w b cap first ra rl rc ca cl cc d 0 l) (hk : Known first curs d l) (hc : Curs w ca cl curs) (ho : Off b ca) (hcl : cl ≤ 1048576)
    (hr : StrIn w ra rl rc recs) (hrl : rl ≤ 1048577) (hrc : rc ≤ maxLen) (_hf : 0 ≤ first ∧ first ≤ 1000000) (hP : curLeast first curs = first + (P : Int)) (hPl : P ≤ rl) :
    Calls Tryz.prog 57 #[.pointer (some ⟨b, 0, none⟩)] w fun e w' => e = .returned (ringV cap (first + (P : Int)) (cutAt ra 1 P rl) (rl - P) (rl - P) ca cl cc) ∧ w.grownBy w' (some b) := by
  have hb := hw.lt
  have HLE : Hid _ := fun w hw hk hc => impl_least (cap := cap) (first := first) (ra := ra) (rl := rl) (rc := rc) (ca := ca) (cl := cl) (cc := cc) b d l curs w hw hk hc ho hcl
  have HL1 : Hid _ := fun w hw => impl_least_1 (cap := cap) (first := first) (ra := ra) (rl := rl) (rc := rc) (ca := ca) (cl := cl) (cc := cc) b (curLeast first curs) w hw
  rw [hP] at HLE HL1
  have HCU : Hid (∀ w, Calls Tryz.prog 109 #[.slice ra rl rc, .int .i64 P, .int .i64 rl] w fun e w' => e = .returned (.slice (cutAt ra 1 P rl) (rl - P) (rl - P)) ∧ w' = w) := fun w => impl_cutS ra rl rc P rl w hPl (Nat.le_refl _) hr.cap hrc hr.nil hr.off
  obtain ⟨a', ha'⟩ : ∃ a', cutAt ra 1 P rl = a' := ⟨_, rfl⟩
  rw [ha'] at HCU ⊢
  have HW : Hid (Work w b cap first ra rl rc ca cl cc d 0 l) := hw
  have HK : Hid (Known first curs d l) := hk
  have HC : Hid (Curs w ca cl curs) := hc
  obtain ⟨c0, c1, c2, c3, c4, c5, c6, c7⟩ := work_cells hw
  clear hw hk hc ha' hP hr
  go_enter Tryz.func57, Tryz.ntmps57
  go_upto_region 2 with fail
  obtain ⟨W0, hW0⟩ : ∃ W0, (w.alloc (ringObj 0 0 none 0 0 none 0 0)).alloc (ringObj cap first ra rl rc ca cl cc) = W0 := ⟨_, rfl⟩
  have hB0 : Below w.heap.size w W0 := by rw [← hW0]; exact ((Below.refl _ _).alloc (Nat.le_refl _) _).alloc (by simp) _
  have hz0 : w.heap.size + 2 ≤ W0.heap.size := by rw [← hW0]; simp
  have b0 : W0.heap[w.heap.size]? = some (ringObj 0 0 none 0 0 none 0 0) := by rw [← hW0]; exact (Below.heap_alloc _ _ _ (by simp)).trans (heap_alloc_new _ _)
  have b1 : W0.heap[w.heap.size + 1]? = some (ringObj cap first ra rl rc ca cl cc) := by
    rw [← hW0]
    have h := heap_alloc_new (w.alloc (ringObj 0 0 none 0 0 none 0 0)) (ringObj cap first ra rl rc ca cl cc)
    rwa [World.size_alloc] at h
  rw [hW0]
  clear hW0
  have HB0 : Hid (Below w.heap.size w W0) := hB0
  have HQ0 : Hid (W0.heap[w.heap.size]? = some (ringObj 0 0 none 0 0 none 0 0) ∧ W0.heap[w.heap.size + 1]? = some (ringObj cap first ra rl rc ca cl cc)) := ⟨b0, b1⟩
  have HW0 : Hid (Work W0 b cap first ra rl rc ca cl cc d 0 l) := HW.out.below hB0
  obtain ⟨d0, d1, d2, d3, d4, d5, d6, d7⟩ := work_cells HW0.out
  clear hB0 b0 b1 c0 c1 c2 c3 c4 c5 c6 c7
  go_cut [4] (fun s wc => s = .int .i64 P ∧ Hid (Passing w wc b cap first ra rl rc ca cl cc first ra rl rc (first + (P : Int))))
  case first =>
    go_region_with (go_at_call 108; refine (HLE.out W0.drew HW0.out HK.out (curs_below HC.out HB0.out.drew)).mono ?_; rintro e w1 ⟨rfl, hW1, hg1⟩; have d1 := (work_cells hW1).2.1; have HPA : Hid (Passing w w1 b cap first ra rl rc ca cl cc first ra rl rc (first + (P : Int))) := passing_start (W0 := W0.drew) HB0.out.drew HQ0.out hW1 hg1 hb hz0; clear hW1 hg1)
    all_goals (go_wp2_with fail; go_meet; refine ⟨?_, HPA⟩; exact val_int (passed_num first P (by omega)))
  case rest =>
  obtain ⟨rfl, hpa⟩ := hcut
  clear HB0 HQ0 HW0 d0 d1 d2 d3 d4 d5 d6 d7 HLE
  obtain ⟨d0, d1, d2, d3, d4, d5, d6, d7⟩ := work_cells hpa.out.work
  have e1c := fun o => cell_of_block0 hpa.out.b1 o
  have e1f := fun o => unfrozen_of_block0 hpa.out.b1 o
  go_upto_region 3 with fail
  go_cut [] (fun wd => Hid (Passing w wd b cap first ra rl rc ca cl cc first a' (rl - P) (rl - P) (first + (P : Int))))
  case first =>
    go_region_with (go_at_call 109; refine (HCU.out _).mono ?_; rintro e w1 ⟨rfl, rfl⟩)
    all_goals (go_wp2_with fail; go_meet; exact passing_cut hpa.out hb _ _ _)
  case rest =>
  have hpb := hcut
  clear hpa d0 d1 d2 d3 d4 d5 d6 d7 e1c e1f hcut
  have e0c := fun o => cell_of_block0 hpb.out.b0 o
  have e0f := fun o => unfrozen_of_block0 hpb.out.b0 o
  have e1c := fun o => cell_of_block0 hpb.out.b1 o
  have e1f := fun o => unfrozen_of_block0 hpb.out.b1 o
  go_wp2_with fail
  refine (HL1.out _ hpb.out.work).mono ?_
  rintro e w1 ⟨rfl, hw1⟩
  rw [hw1]
  clear hw1 w1
  go_wp2
  refine bodyPost_ret (v := ringV cap (first + (P : Int)) a' (rl - P) (rl - P) ca cl cc) (by simp [results, Tryz.results57, go_sem, e0c]) rfl ⟨rfl, ?_⟩
  exact ((((hpb.out.grown.andThen (grown_setc _ (w.heap.size + 1) 1 _) (fun j e => by cases e; exact .inl (by omega))).andThen (grown_setc _ w.heap.size 0 _) (fun j e => by cases e; exact .inl (Nat.le_refl _))).andThen (grown_setc _ w.heap.size 1 _) (fun j e => by cases e; exact .inl (Nat.le_refl _))).andThen (grown_setc _ w.heap.size 2 _) (fun j e => by cases e; exact .inl (Nat.le_refl _))).andThen (grown_setc _ w.heap.size 3 _) (fun j e => by cases e; exact .inl (Nat.le_refl _))
end Go.Proofs.YtbbaghlmialaoaaGreatDoor
/- Leave of the program. -/
namespace Go.Proofs.YtbbaghlmialaoaaGreatDoor
open Go.RowKit
variable {cap first : Int} {ra ca : Option Addr} {rl rc cl cc : Nat}

/-- A ring without what its cursors have passed. -/
def trimR (cap first : Int) (recs : List ByteArray) (curs : List (Int × Int)) : RO := RO.ring cap (curLeast first curs) (recs.drop (curLeast first curs - first).toNat) curs
def leaveR (cap first : Int) (recs : List ByteArray) (curs : List (Int × Int)) (g : Int) : RO :=
  if ringRightB cap first recs curs = false then RO.ill 1 else if findB g curs = false then RO.ill 6
  else trimR cap first recs (curs.take (findK g curs) ++ curs.drop (findK g curs + 1))
theorem foldl_min_mem (l : List (Int × Int)) : ∀ n, l.foldl (fun n x => min n x.2) n = n ∨ ∃ c ∈ l, l.foldl (fun n x => min n x.2) n = c.2 := by
  induction l with
  | nil => intro n; exact .inl rfl
  | cons x r ih =>
    intro n
    simp only [List.foldl_cons]
    rcases ih (min n x.2) with h | ⟨c, hc, h⟩
    · rw [h]
      by_cases hx : n ≤ x.2
      · exact .inl (by omega)
      · exact .inr ⟨x, by simp, by omega⟩
    · exact .inr ⟨c, by simp [hc], h⟩
theorem curLeast_in (first fin : Int) (l : List (Int × Int)) (hf : first ≤ fin) (h : ∀ c ∈ l, first ≤ c.2 ∧ c.2 ≤ fin) : first ≤ curLeast first l ∧ curLeast first l ≤ fin := by
  cases l with
  | nil => exact ⟨Int.le_refl _, hf⟩
  | cons x r =>
    rcases foldl_min_mem (x :: r) x.2 with e | ⟨c, hc, e⟩
    · have := h x (by simp)
      show first ≤ (x :: r).foldl _ x.2 ∧ (x :: r).foldl _ x.2 ≤ fin
      rw [e]
      exact this
    · have := h c hc
      show first ≤ (x :: r).foldl _ x.2 ∧ (x :: r).foldl _ x.2 ≤ fin
      rw [e]
      exact this
theorem right_curs {recs : List ByteArray} {curs : List (Int × Int)} (h : ringRightB cap first recs curs = true) : (∀ c ∈ curs, first ≤ c.2 ∧ c.2 ≤ first + (recs.length : Int)) ∧ (∀ j, ∀ (hj : j + 1 < curs.length), curs[j].1 < curs[j + 1].1) := by
  rw [ringRight_eq, curRight_eq] at h
  simp only [Bool.and_eq_true, cursOk_iff] at h
  exact ⟨fun c hc => (h.2.1.1 c hc).2, h.2.1.2.2⟩
theorem cut_strIn {w : World} {a : Option Addr} {n c P : Nat} {l : List ByteArray} (h : StrIn w a n c l) (hP : P ≤ n) : StrIn w (cutAt a 1 P n) (n - P) (n - P) (l.drop P) := by
  have hl : l.length = n := h.strs.1
  refine ⟨?_, cutAt_lt h.lt, fun e => ?_, Nat.le_refl _, cutAt_off h.off⟩
  · have hc := cut_strs h.strs hP (Nat.le_refl n)
    rwa [List.take_of_length_le (by simp; omega)] at hc
  · have := (h.nil (cutAt_none e)).1
    omega
theorem find_lt {g : Int} {l : List (Int × Int)} (h : findB g l = true) : findK g l < l.length := by
  unfold findB at h
  rcases Nat.lt_or_ge (findK g l) l.length with h1 | h1
  · exact h1
  · rw [List.getElem?_eq_none h1] at h
    cases h
theorem ans_trim {w w8 : World} {base n m P : Nat} {recs : List ByteArray} {cs : List (Int × Int)} {a : Option Addr} {q : Nat} {c : Option Addr} {p : Nat} (hP : curLeast first cs = first + (P : Int)) (ho : OwnRing w8 base a n q c m p ((recs.drop P).map Value.string) (curCells cs)) (hB : Below w.heap.size w w8) {b : Nat} (hb : w.heap.size ≤ b) (hbb : b < base) (v0 v1 v2 v3 v4 v5 v6 v7 : Value) :
    Answers w (set8 w8 b v0 v1 v2 v3 v4 v5 v6 v7) (.returned (ringOutV cap (first + (P : Int)) a n q c m p 0 0 ⟨#[]⟩ 0)) (trimR cap first recs cs) := by
  have hn : (recs.drop P).length = n := by have := ho.1.1; simp at this ⊢; omega
  have hm : cs.length = m := by have := ho.2.1; rw [curCells_length] at this; omega
  have e : trimR cap first recs cs = RO.ring cap (first + (P : Int)) (recs.drop P) cs := by
    unfold trimR
    rw [hP, show (first + (P : Int) - first).toNat = P by omega]
  rw [e]
  subst hn hm
  exact ans_ring (RO.ring cap (first + (P : Int)) (recs.drop P) cs) ho hB b hb hbb _ _ _ _ _ _ _ _
set_option maxRecDepth 100000 in
set_option maxHeartbeats 4000000 in
theorem impl_leave (recs : List ByteArray) (curs : List (Int × Int)) (g : Int) (w : World) (hi : RFit w ra rl rc ca cl cc recs curs) (hT : utabs w) :
    Calls Tryz.prog 23 #[ringV cap first ra rl rc ca cl cc, .int .i64 g] w fun e w' => Answers w w' e (leaveR cap first recs curs g) := by
  have HI : Hid (RFit w ra rl rc ca cl cc recs curs) := hi
  have HT : Hid (utabs w) := hT
  have hcl : cl ≤ 1048576 := hi.cle
  have hrl : rl ≤ 1048576 := hi.rle
  have HL : Hid (curs.length = cl) := hi.cur.curs.1
  have HRL : Hid (recs.length = rl) := hi.str.strs.1
  clear hi hT
  have HB0 : Hid (Below w.heap.size w (W2 w cap first ra rl rc ca cl cc)) := w2_below ..
  go_enter Tryz.func23, Tryz.ntmps23
  go_wp2_with fail
  refine (impl_atWork _).mono ?_
  rintro e w1 ⟨rfl, hb1, hw1, hz1⟩
  obtain ⟨b, hb⟩ : ∃ b, (W2 w cap first ra rl rc ca cl cc).heap.size + 1 = b := ⟨_, rfl⟩
  have hbb : w.heap.size + 2 ≤ b := by rw [← hb]; simp
  rw [hb] at hw1 ⊢
  have HA : Hid _ := fun (_ : Unit) => impl_asked recs curs b w w1 HI.out.rin HT.out (below_tr HB0.out hb1) (by omega) hw1
  have HK : Hid (∀ w2, w1.grownBy w2 (some b) → Below (W2 w cap first ra rl rc ca cl cc).heap.size (W2 w cap first ra rl rc ca cl cc) w2) := fun w2 hg => keep_blocks hb1 hg (by simp; omega)
  clear hb1 hw1 hz1 hb
  obtain ⟨r, hr⟩ : ∃ r, leaveR cap first recs curs g = r := ⟨_, rfl⟩
  obtain ⟨R, hR⟩ : ∃ R, ringRightB cap first recs curs = R := ⟨_, rfl⟩
  have HF : Hid _ := hr
  unfold leaveR at HF
  rw [hR] at HA HF
  have HRR : Hid (R = true → (0 ≤ first ∧ first ≤ 1000000) ∧ (∀ c ∈ curs, first ≤ c.2 ∧ c.2 ≤ first + (rl : Int))) := fun h => by
    have h1 := right_first (hR.trans h)
    have h2 := (right_curs (hR.trans h)).1
    rw [HRL.out] at h2
    exact ⟨h1.1, h2⟩
  have HGO : Hid (leaveR cap first recs curs g = r) := hr
  clear hr hR
  go_wp2_with fail
  refine (HA.out ()).mono ?_
  rintro e w2 ⟨rfl, hA2, hg2⟩
  have HA2 : Hid (Asked w w2 b cap first ra rl rc ca cl cc curs) := hA2
  have HW2 : Hid (Below (W2 w cap first ra rl rc ca cl cc).heap.size (W2 w cap first ra rl rc ca cl cc) w2) := HK.out w2 hg2
  clear hA2 hg2 HA HK
  have hc2 := fun o => HW2.out.cell (p := ⟨w.heap.size + 1, o, none⟩) (by simp)
  have hf2 := fun o => HW2.out.frozen (p := ⟨w.heap.size + 1, o, none⟩) (by simp)
  cases R
  · have hE : Hid (leaveR cap first recs curs g = RO.ill 1) := HGO.out.trans (HF.out.symm.trans (if_pos rfl))
    clear HF
    go_wp2
    refine bodyPost_ret (v := ringIll 1) (by simp [results, Tryz.results23, go_sem, hc2]) rfl ?_
    rw [hE.out]
    exact ans_ill 1 HA2.out.below _ (by omega) _ _ _ _ _ _ _ _
  · have HRT := HRR.out rfl
    have HFT : Hid (0 ≤ first ∧ first ≤ 1000000) := HRT.1
    have HCR : Hid (∀ c ∈ curs, first ≤ c.2 ∧ c.2 ≤ first + (rl : Int)) := HRT.2
    clear HRT HRR
    obtain ⟨d, l, hW, hK⟩ := HA2.out.work
    have HW : Hid (Work w2 b cap first ra rl rc ca cl cc d 0 l) := hW
    clear hW hK
    have HF2 : Hid ((if findB g curs = false then RO.ill 6 else trimR cap first recs (curs.take (findK g curs) ++ curs.drop (findK g curs + 1))) = r) := by
      have h := HF.out
      rw [if_neg (by simp)] at h
      exact h
    clear HF
    have HFO : Hid _ := fun (_ : Unit) => impl_follower b d 0 l g curs w2 HW.out (curs_below HI.out.cur.curs HA2.out.below) hcl
    have HKL : Hid (findB g curs = true → findK g curs < cl) := fun h => by rw [← HL.out]; exact find_lt h
    obtain ⟨K, hKe⟩ : ∃ K, findK g curs = K := ⟨_, rfl⟩
    obtain ⟨T, hTe⟩ : ∃ T, findB g curs = T := ⟨_, rfl⟩
    rw [hKe] at HFO HF2 HKL
    rw [hTe] at HFO HF2 HKL
    clear hKe hTe
    go_wp2_with fail
    refine (HFO.out ()).mono ?_
    rintro e w3 ⟨rfl, hb3⟩
    have HB3 : Hid (Below w.heap.size w w3) := below_tr HA2.out.below hb3
    have HW3 : Hid (Below (W2 w cap first ra rl rc ca cl cc).heap.size (W2 w cap first ra rl rc ca cl cc) w3) := below_tr HW2.out hb3
    have HWk3 : Hid (Work w3 b cap first ra rl rc ca cl cc d 0 l) := HW.out.below hb3
    clear hb3 HW hc2 hf2 HFO
    have hc3 := fun o => HW3.out.cell (p := ⟨w.heap.size + 1, o, none⟩) (by simp)
    have hf3 := fun o => HW3.out.frozen (p := ⟨w.heap.size + 1, o, none⟩) (by simp)
    have hd3 := fun o => HW3.out.cell (p := ⟨w.heap.size, o, none⟩) (by simp only [World.size_alloc]; omega)
    cases T
    · have hE : Hid (leaveR cap first recs curs g = RO.ill 6) := HGO.out.trans (HF2.out.symm.trans (if_pos rfl))
      clear HF2
      go_wp2
      refine bodyPost_ret (v := ringIll 6) (by simp [results, Tryz.results23, go_sem, hc3]) rfl ?_
      rw [hE.out]
      exact ans_ill 6 HB3.out _ (by omega) _ _ _ _ _ _ _ _
    · have hKc := HKL.out rfl
      obtain ⟨cs, hcs⟩ : ∃ cs, curs.take K ++ curs.drop (K + 1) = cs := ⟨_, rfl⟩
      have HCS : Hid (∀ c ∈ cs, first ≤ c.2 ∧ c.2 ≤ first + (rl : Int)) := fun c hc => by
        rw [← hcs] at hc
        rcases List.mem_append.1 hc with h | h
        · exact HCR.out c (List.mem_of_mem_take h)
        · exact HCR.out c (List.mem_of_mem_drop h)
      have hE : Hid (leaveR cap first recs curs g = trimR cap first recs cs) := HGO.out.trans (HF2.out.symm.trans (by rw [if_neg (by simp), hcs]))
      have HWO : Hid (∀ w, CurIn w ca cl cc curs → Calls Tryz.prog 54 #[.slice ca cl cc, .int .i64 K] w fun e w' => ∃ a' c', e = .returned (.slice a' (cl - 1) c') ∧ CurIn w' a' (cl - 1) c' cs ∧ Below w.heap.size w w') := fun w h => by rw [← hcs]; exact impl_withoutC ca cl cc K curs w h hKc HI.out.ccm hcl
      have HIN := curLeast_in first (first + (rl : Int)) cs (by omega) HCS.out
      obtain ⟨P, hP⟩ : ∃ P : Nat, curLeast first cs = first + (P : Int) := ⟨(curLeast first cs - first).toNat, by omega⟩
      have hPl : P ≤ rl := by omega
      have HPE : Hid (curLeast first cs = first + (P : Int)) := hP
      clear HF2 hcs HIN hP
      go_wp2_with fail
      refine (HWO.out _ (HI.out.cur.below HB3.out)).mono ?_
      rintro e w4 ⟨a4, c4, rfl, hci4, hb4⟩
      have HC4 : Hid (CurIn w4 a4 (cl - 1) c4 cs) := hci4
      have HB4 : Hid (Below w.heap.size w w4) := below_tr HB3.out hb4
      have HW4 : Hid (Below (W2 w cap first ra rl rc ca cl cc).heap.size (W2 w cap first ra rl rc ca cl cc) w4) := below_tr HW3.out hb4
      have HWk4 : Hid (Work w4 b cap first ra rl rc ca cl cc d 0 l) := HWk3.out.below hb4
      clear hci4 hb4 HWk3
      go_wp2_with fail
      refine (impl_withCursors b d 0 l a4 (cl - 1) c4 _ HWk4.out).mono ?_
      rintro e w5 ⟨rfl, hb5⟩
      have HC5 : Hid (CurIn w5 a4 (cl - 1) c4 cs) := HC4.out.below hb5
      have HB5 : Hid (Below w.heap.size w w5) := below_tr HB4.out hb5
      have HW5 : Hid (Below (W2 w cap first ra rl rc ca cl cc).heap.size (W2 w cap first ra rl rc ca cl cc) w5) := below_tr HW4.out hb5
      clear hb5 HC4 HWk4
      go_wp2_with fail
      refine (impl_atWork _).mono ?_
      rintro e w6 ⟨rfl, hb6, hw6, _⟩
      obtain ⟨b2, hb2⟩ : ∃ b2, w5.heap.size + 1 = b2 := ⟨_, rfl⟩
      rw [hb2] at hw6 ⊢
      have HB6 : Hid (Below w.heap.size w w6) := below_tr HB5.out hb6
      have HOF : Hid (Off b2 a4) := fun x e => by have := HC5.out.lt x e; omega
      have HPS : Hid _ := fun (_ : Unit) => impl_withoutPassed b2 0 0 recs cs P w6 hw6 (.inl rfl) (curs_below HC5.out.curs hb6) HOF.out (by omega) (HI.out.str.below HB6.out) (by omega) HI.out.rcm HFT.out HPE.out hPl
      have HK6 : Hid (∀ w7, w6.grownBy w7 (some b2) → Below w5.heap.size w5 w7) := fun w7 hg => keep_blocks hb6 hg (by omega)
      clear hb6 hw6 hb2
      go_wp2_with fail
      refine (HPS.out ()).mono ?_
      rintro e w7 ⟨rfl, hg7⟩
      have hb7 := HK6.out w7 hg7
      have HC7 : Hid (CurIn w7 a4 (cl - 1) c4 cs) := HC5.out.below hb7
      have HB7 : Hid (Below w.heap.size w w7) := below_tr HB5.out hb7
      have HW7 : Hid (Below (W2 w cap first ra rl rc ca cl cc).heap.size (W2 w cap first ra rl rc ca cl cc) w7) := below_tr HW5.out hb7
      have HS7 : Hid (StrIn w7 (cutAt ra 1 P rl) (rl - P) (rl - P) (recs.drop P)) := cut_strIn (HI.out.str.below HB7.out) hPl
      have hz7 : w.heap.size + 1 < w7.heap.size := by have h := HW7.out.size; simp at h; omega
      clear hg7 hb7 HPS HK6
      obtain ⟨ra', hra'⟩ : ∃ ra', cutAt ra 1 P rl = ra' := ⟨_, rfl⟩
      rw [hra'] at HS7 ⊢
      clear hra'
      go_wp2_with fail
      refine (impl_copyRing cap (first + (P : Int)) ra' (rl - P) (rl - P) a4 (cl - 1) c4 (recs.drop P) cs _ HS7.out HC7.out (fun s hs => HI.out.sz s (List.mem_of_mem_drop hs)) (by omega) (by omega)).mono ?_
      rintro e w8 ⟨a, q, c, p, rfl, ho8, hb8⟩
      have HB8 : Hid (Below w.heap.size w w8) := below_tr HB7.out hb8
      have HW8 : Hid (Below (W2 w cap first ra rl rc ca cl cc).heap.size (W2 w cap first ra rl rc ca cl cc) w8) := below_tr HW7.out hb8
      have HO8 : Hid (OwnRing w8 w7.heap.size a (rl - P) q c (cl - 1) p ((recs.drop P).map Value.string) (curCells cs)) := ho8
      clear hb8 ho8 hc3 hf3 hd3
      have hc8 := fun o => HW8.out.cell (p := ⟨w.heap.size + 1, o, none⟩) (by simp)
      have hf8 := fun o => HW8.out.frozen (p := ⟨w.heap.size + 1, o, none⟩) (by simp)
      go_wp2
      refine bodyPost_ret (v := ringOutV cap (first + (P : Int)) a (rl - P) q c (cl - 1) p 0 0 ⟨#[]⟩ 0) (by simp [results, Tryz.results23, go_sem, hc8]) rfl ?_
      rw [hE.out]
      exact ans_trim HPE.out HO8.out HB8.out (by omega) hz7 _ _ _ _ _ _ _ _
end Go.Proofs.YtbbaghlmialaoaaGreatDoor
/- What a law that asks for a ring's answer keeps, from call to call. -/
namespace Go.Proofs.YtbbaghlmialaoaaGreatDoor
open Go.RowKit

abbrev outObj (cap first : Int) (ra : Option Addr) (rl rc : Nat) (ca : Option Addr) (cl cc : Nat) (k t : Int) (d : ByteArray) (c : Int) : Obj := .cells #[.int .i64 cap, .int .i64 first, .slice ra rl rc, .slice ca cl cc, .int .i64 k, .int .i64 t, .string d, .int .i64 c] 32 (0, 0)
theorem blk_lt {u : World} {i : Nat} {o : Obj} (h : u.heap[i]? = some o) : i < u.heap.size := (Array.getElem?_eq_some_iff.1 h).1
theorem blk {u v : World} {i : Nat} {o : Obj} (h : u.heap[i]? = some o) (hb : Below u.heap.size u v) : v.heap[i]? = some o := (hb.block i (blk_lt h)).trans h
theorem blk2 {u v : World} {i : Nat} {o : Obj} {r s : Option Nat} (h : u.heap[i]? = some o) (k : Grown2 u v r s) (hr : some i ≠ r) (hs : some i ≠ s) : v.heap[i]? = some o := (k.2.2.2.2 i (blk_lt h) hr hs).trans h
theorem below_new (w : World) (o : Obj) : Below w.heap.size w (w.alloc o) := (Below.refl _ _).alloc (Nat.le_refl _) _
/-- The argument's box, and the specification's answer. -/
structure KA (w u : World) (oA oB : Obj) (B : Nat) (a : Option Addr) (n q : Nat) (c : Option Addr) (m p : Nat) (xs ys : List Value) : Prop where
  ba : u.heap[w.heap.size]? = some oA
  blo : Below w.heap.size w u
  bb : u.heap[B]? = some oB
  own : OwnRing u w.heap.size a n q c m p xs ys
  l1 : ∀ j, (Value.slice a n q).ownBlock = some j → j < B
  l2 : ∀ j, (Value.slice c m p).ownBlock = some j → j < B
  lt : w.heap.size < B
theorem KA.mk0 {w w2 w3 : World} {oA oB : Obj} {a : Option Addr} {n q : Nat} {c : Option Addr} {m p : Nat} {xs ys : List Value} (ha : w3.heap[w.heap.size]? = some oA) (hb : Below w.heap.size w w3) (ho : OwnRing w3 w2.heap.size a n q c m p xs ys) (h2 : w.heap.size ≤ w2.heap.size) : KA w (w3.alloc oB) oA oB w3.heap.size a n q c m p xs ys :=
  ⟨blk ha (below_new _ _), below_tr hb (below_new _ _), heap_alloc_new _ _, OwnRing.below ⟨ho.1.mono h2, ho.2.mono h2⟩ (below_new _ _), fun j e => (ho.1.lt j e).2, fun j e => (ho.2.lt j e).2, blk_lt ha⟩
theorem KA.below {w u v : World} {oA oB : Obj} {B : Nat} {a : Option Addr} {n q : Nat} {c : Option Addr} {m p : Nat} {xs ys : List Value} (h : KA w u oA oB B a n q c m p xs ys) (hb : Below u.heap.size u v) : KA w v oA oB B a n q c m p xs ys :=
  ⟨blk h.ba hb, below_tr h.blo hb, blk h.bb hb, h.own.below hb, h.l1, h.l2, h.lt⟩
theorem KA.grown {w u v : World} {oA oB : Obj} {B : Nat} {a : Option Addr} {n q : Nat} {c : Option Addr} {m p : Nat} {xs ys : List Value} {r s : Option Nat} (h : KA w u oA oB B a n q c m p xs ys) (k : Grown2 u v r s) (hr : ∀ i, r = some i → B < i) (hs : ∀ i, s = some i → B < i) : KA w v oA oB B a n q c m p xs ys := by
  have hlt := h.lt
  have hn : ∀ i, i ≤ B → some i ≠ r ∧ some i ≠ s := fun i hi => ⟨fun e => by have := hr i e.symm; omega, fun e => by have := hs i e.symm; omega⟩
  refine ⟨blk2 h.ba k (hn _ (by omega)).1 (hn _ (by omega)).2, Grown2.below h.blo h.blo.size k (fun i e => by have := hr i e; omega) (fun i e => by have := hs i e; omega), blk2 h.bb k (hn _ (by omega)).1 (hn _ (by omega)).2, ⟨k.kept h.own.1 fun i e => hn i ?_, k.kept h.own.2 fun i e => hn i ?_⟩, h.l1, h.l2, h.lt⟩
  · have := h.l1 i e; omega
  · have := h.l2 i e; omega
/-- A block O of its own, and a ring whose lists lie between base and O. -/
structure KR (u : World) (base O : Nat) (o : Obj) (a : Option Addr) (n q : Nat) (c : Option Addr) (m p : Nat) (xs ys : List Value) : Prop where
  bo : u.heap[O]? = some o
  own : OwnRing u (base + 1) a n q c m p xs ys
  l1 : ∀ j, (Value.slice a n q).ownBlock = some j → j < O
  l2 : ∀ j, (Value.slice c m p).ownBlock = some j → j < O
  lt : base < O
theorem KR.mk0 {w3 w4 : World} {o3 o : Obj} {a : Option Addr} {n q : Nat} {c : Option Addr} {m p : Nat} {xs ys : List Value} (ho : OwnRing w4 (w3.alloc o3).heap.size a n q c m p xs ys) (hb : Below (w3.alloc o3).heap.size (w3.alloc o3) w4) : KR (w4.alloc o) w3.heap.size w4.heap.size o a n q c m p xs ys := by
  have hz := hb.size
  rw [World.size_alloc] at ho hz
  exact ⟨heap_alloc_new _ _, ho.below (below_new _ _), fun j e => (ho.1.lt j e).2, fun j e => (ho.2.lt j e).2, hz⟩
theorem KR.below {u v : World} {base O : Nat} {o : Obj} {a : Option Addr} {n q : Nat} {c : Option Addr} {m p : Nat} {xs ys : List Value} (h : KR u base O o a n q c m p xs ys) (hb : Below u.heap.size u v) : KR v base O o a n q c m p xs ys :=
  ⟨blk h.bo hb, h.own.below hb, h.l1, h.l2, h.lt⟩
theorem KR.grown {u v : World} {base O : Nat} {o : Obj} {a : Option Addr} {n q : Nat} {c : Option Addr} {m p : Nat} {xs ys : List Value} {r s : Option Nat} (h : KR u base O o a n q c m p xs ys) (k : Grown2 u v r s) (hr : ∀ i, r = some i → i < base) (hs : ∀ i, s = some i → i < base) : KR v base O o a n q c m p xs ys := by
  have hlt := h.lt
  have hn : ∀ i, base ≤ i → some i ≠ r ∧ some i ≠ s := fun i hi => ⟨fun e => by have := hr i e.symm; omega, fun e => by have := hs i e.symm; omega⟩
  refine ⟨blk2 h.bo k (hn _ (by omega)).1 (hn _ (by omega)).2, ⟨k.kept h.own.1 fun i e => hn i ?_, k.kept h.own.2 fun i e => hn i ?_⟩, h.l1, h.l2, h.lt⟩
  · have := (h.own.1.lt i e).1; omega
  · have := (h.own.2.lt i e).1; omega
theorem KR.mark {u v : World} {base O : Nat} {o : Obj} {a : Option Addr} {n q : Nat} {c : Option Addr} {m p : Nat} {xs ys xs' ys' : List Value} (h : KR u base O o a n q c m p xs ys) (ho : OwnRing v (base + 1) a n q c m p xs' ys') (k : Grown2 u v (Value.slice a n q).ownBlock (Value.slice c m p).ownBlock) : KR v base O o a n q c m p xs' ys' :=
  ⟨blk2 h.bo k (fun e => by have := h.l1 _ e.symm; omega) (fun e => by have := h.l2 _ e.symm; omega), ho, h.l1, h.l2, h.lt⟩
theorem KA.mark {w u v : World} {oA oB o : Obj} {B O : Nat} {a a' : Option Addr} {n q n' q' : Nat} {c c' : Option Addr} {m p m' p' base : Nat} {xs ys xs' ys' : List Value} (h : KA w u oA oB B a n q c m p xs ys) (hx : KR u base O o a' n' q' c' m' p' xs' ys') (hB : B ≤ base) (k : Grown2 u v (Value.slice a' n' q').ownBlock (Value.slice c' m' p').ownBlock) : KA w v oA oB B a n q c m p xs ys :=
  h.grown k (fun i e => by have := (hx.own.1.lt i e).1; omega) (fun i e => by have := (hx.own.2.lt i e).1; omega)
theorem KR.mark2 {u v : World} {base base' O O' : Nat} {o o' : Obj} {a a' : Option Addr} {n q n' q' : Nat} {c c' : Option Addr} {m p m' p' : Nat} {xs ys xs' ys' : List Value} (h : KR u base O o a n q c m p xs ys) (hx : KR u base' O' o' a' n' q' c' m' p' xs' ys') (hB : O' ≤ base) (k : Grown2 u v (Value.slice a' n' q').ownBlock (Value.slice c' m' p').ownBlock) : KR v base O o a n q c m p xs ys :=
  h.grown k (fun i e => by have := hx.l1 i e; omega) (fun i e => by have := hx.l2 i e; omega)
theorem own_rfit {w : World} {base a c rl cl : Nat} {recs : List ByteArray} {curs : List (Int × Int)} (h : OwnRing w base (some ⟨a, 0, none⟩) rl rl (some ⟨c, 0, none⟩) cl cl (recs.map Value.string) (curCells curs)) (hs : ∀ s ∈ recs, s.size ≤ 1048576) (hr : rl ≤ 1048576) (hc : cl ≤ 1048576) :
    RFit w (some ⟨a, 0, none⟩) rl rl (some ⟨c, 0, none⟩) cl cl recs curs := by
  obtain ⟨a1, q1, e1, h1⟩ := own_strIn h.1
  obtain ⟨a2, q2, e2, h2⟩ := own_curIn h.2
  simp only [Value.slice.injEq] at e1 e2
  obtain ⟨rfl, _, rfl⟩ := e1
  obtain ⟨rfl, _, rfl⟩ := e2
  exact ⟨h1, h2, hs, hr, hc, by unfold maxLen; omega, by unfold maxLen; omega⟩
end Go.Proofs.YtbbaghlmialaoaaGreatDoor
