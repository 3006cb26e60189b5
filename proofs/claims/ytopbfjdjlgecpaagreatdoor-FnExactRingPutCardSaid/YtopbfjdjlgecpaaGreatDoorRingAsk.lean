/- RingRight, RingEnd, RingRoom: the program's and the specification's. -/
import Derived.Test.YtopbfjdjlgecpaaGreatDoorRingRight
import Derived.Test.YtopbfjdjlgecpaaGreatDoorRingSpec1
namespace Go.Proofs.YtopbfjdjlgecpaaGreatDoor
open Go.RowKit
variable {cap first : Int} {ra ca : Option Addr} {rl rc cl cc : Nat}

/-- A ring's lists as they are handed in. -/
structure RIn (w : World) (ra : Option Addr) (rl rc : Nat) (ca : Option Addr) (cl cc : Nat) (recs : List ByteArray) (curs : List (Int × Int)) : Prop where
  strs : Strs w ra rl recs
  curs : Curs w ca cl curs
  rlt : ∀ x, ra = some x → x.block < w.heap.size
  clt : ∀ x, ca = some x → x.block < w.heap.size
  rnil : ra = none → rl = 0 ∧ rc = 0
  cnil : ca = none → cl = 0 ∧ cc = 0
  sz : ∀ s ∈ recs, s.size ≤ 1048576
  rle : rl ≤ 1048576
  cle : cl ≤ 1048576
theorem RIn.below {w w' : World} {recs : List ByteArray} {curs : List (Int × Int)} (h : RIn w ra rl rc ca cl cc recs curs) (hb : Below w.heap.size w w') : RIn w' ra rl rc ca cl cc recs curs :=
  ⟨strs_below h.strs hb, curs_below h.curs hb, fun x e => Nat.lt_of_lt_of_le (h.rlt x e) hb.size, fun x e => Nat.lt_of_lt_of_le (h.clt x e) hb.size, h.rnil, h.cnil, h.sz, h.rle, h.cle⟩
theorem RIn.sz' {w : World} {recs : List ByteArray} {curs : List (Int × Int)} (h : RIn w ra rl rc ca cl cc recs curs) : ∀ s ∈ recs, s.size ≤ maxLen := fun s hs => by have := h.sz s hs; unfold maxLen; omega
theorem RIn.came {w w' : World} {b : Nat} {recs : List ByteArray} {curs : List (Int × Int)} (h : RIn w ra rl rc ca cl cc recs curs) (hb : Below w.heap.size w w') (hbb : w.heap.size ≤ b) : Came w' w'.heap.size b ra rl ca cl recs curs :=
  ⟨strs_below h.strs hb, curs_below h.curs hb, fun x e => Nat.lt_of_lt_of_le (h.rlt x e) hb.size, fun x e => Nat.lt_of_lt_of_le (h.clt x e) hb.size, fun x e => by have := h.rlt x e; omega, fun x e => by have := h.clt x e; omega, h.sz', h.rle, h.cle⟩
theorem below_grown_new {w u v : World} {b : Nat} (h : Below w.heap.size w u) (hg : u.grownBy v (some b)) (hb : w.heap.size ≤ b) : Below w.heap.size w v := h.grown hg h.size (fun k e => by cases e; exact hb)
/-- A ring is set to work, and asked whether it is right: what stands then. -/
structure Asked (w w' : World) (b : Nat) (cap first : Int) (ra : Option Addr) (rl rc : Nat) (ca : Option Addr) (cl cc : Nat) (curs : List (Int × Int)) : Prop where
  below : Below w.heap.size w w'
  new : w.heap.size ≤ b
  work : ∃ d l, Work w' b cap first ra rl rc ca cl cc d 0 l ∧ Known first curs d l
theorem impl_asked (recs : List ByteArray) (curs : List (Int × Int)) (b : Nat) (w w1 : World) (hi : RIn w ra rl rc ca cl cc recs curs) (hT : utabs w) (hB : Below w.heap.size w w1) (hb : w.heap.size ≤ b) (hw1 : Work w1 b cap first ra rl rc ca cl cc 0 0 0) :
    Calls Tryz.prog 45 #[.pointer (some ⟨b, 0, none⟩)] w1 fun e w' => e = .returned (.bool (ringRightB cap first recs curs)) ∧ Asked w w' b cap first ra rl rc ca cl cc curs ∧ w1.grownBy w' (some b) :=
  (impl_right _ 0 0 recs curs w1 hw1 (.inl rfl) (hi.came hB hb) (utabs_below hT hB)).mono (fun _ _ h => ⟨h.1, ⟨below_grown_new hB h.2.1 hb, hb, h.2.2⟩, h.2.1⟩)
set_option maxRecDepth 100000 in
set_option maxHeartbeats 400000 in
theorem impl_ringRight (recs : List ByteArray) (curs : List (Int × Int)) (w : World) (hi : RIn w ra rl rc ca cl cc recs curs) (hT : utabs w) :
    Calls Tryz.prog 30 #[ringV cap first ra rl rc ca cl cc] w fun e w' => e = .returned (.bool (ringRightB cap first recs curs)) ∧ Below w.heap.size w w' := by
  have HI : Hid (RIn w ra rl rc ca cl cc recs curs) := hi
  have HT : Hid (utabs w) := hT
  clear hi hT
  have hB0 : Hid (Below w.heap.size w (w.alloc (ringObj cap first ra rl rc ca cl cc))) := (Below.refl _ _).alloc (Nat.le_refl _) _
  go_enter Tryz.func30, Tryz.ntmps30
  go_wp2_with fail
  refine (impl_atWork _).mono ?_
  rintro e w1 ⟨rfl, hb1, hw1, hz1⟩
  obtain ⟨b, hb⟩ : ∃ b, (w.alloc (ringObj cap first ra rl rc ca cl cc)).heap.size + 1 = b := ⟨_, rfl⟩
  have hbb : w.heap.size ≤ b := by rw [← hb]; simp; omega
  rw [hb] at hw1 ⊢
  have HA : Hid _ := fun (_ : Unit) => impl_asked recs curs b w w1 HI.out HT.out (below_tr hB0.out hb1) hbb hw1
  clear hb1 hw1 hz1 hb
  obtain ⟨R, hR⟩ : ∃ R, ringRightB cap first recs curs = R := ⟨_, rfl⟩
  rw [hR] at HA
  have HR : Hid _ := hR
  clear hR
  go_wp2_with fail
  refine (HA.out ()).mono ?_
  rintro e w2 ⟨rfl, hA2, _⟩
  have hB2 : Hid (Below w.heap.size w w2) := hA2.below
  clear hA2
  go_wp2
  go_ret
  exact ⟨ret_bool HR.out.symm, hB2.out⟩
def endOf (cap first : Int) (recs : List ByteArray) (curs : List (Int × Int)) : Int := if ringRightB cap first recs curs then first + (recs.length : Int) else 0
def roomOf (cap first : Int) (recs : List ByteArray) (curs : List (Int × Int)) : Int := if ringRightB cap first recs curs then cap - (recs.length : Int) else 0
theorem right_first {recs : List ByteArray} {curs : List (Int × Int)} (h : ringRightB cap first recs curs = true) : (0 ≤ first ∧ first ≤ 1000000) ∧ (4 ≤ cap ∧ cap ≤ 16) ∧ (recs.length : Int) ≤ cap ∧ first + (recs.length : Int) ≤ 1000000 ∧ curs.length ≤ 4 := by
  rw [ringRight_eq] at h
  simp only [Bool.and_eq_true, sizesB, decide_eq_true_eq] at h
  exact ⟨h.1.1.1.1.1.2, capB_le h.1.1.1.1.1.1, h.1.1.1.1.2, h.1.1.1.2, h.1.1.2⟩
set_option maxRecDepth 100000 in
set_option maxHeartbeats 1000000 in
theorem impl_ringEnd (recs : List ByteArray) (curs : List (Int × Int)) (w : World) (hi : RIn w ra rl rc ca cl cc recs curs) (hT : utabs w) :
    Calls Tryz.prog 26 #[ringV cap first ra rl rc ca cl cc] w fun e w' => e = .returned (.int .i64 (endOf cap first recs curs)) ∧ Below w.heap.size w w' := by
  have HI : Hid (RIn w ra rl rc ca cl cc recs curs) := hi
  have HT : Hid (utabs w) := hT
  have HE : Hid (endOf cap first recs curs = if ringRightB cap first recs curs then first + (rl : Int) else 0) := by show _ = _; rw [← hi.strs.1]; rfl
  have HF : Hid (ringRightB cap first recs curs = true → 0 ≤ first ∧ first ≤ 1000000) := fun h => (right_first h).1
  clear hi hT
  have hB0 : Hid (Below w.heap.size w (w.alloc (ringObj cap first ra rl rc ca cl cc))) := (Below.refl _ _).alloc (Nat.le_refl _) _
  go_enter Tryz.func26, Tryz.ntmps26
  go_wp2_with fail
  refine (impl_atWork _).mono ?_
  rintro e w1 ⟨rfl, hb1, hw1, hz1⟩
  obtain ⟨b, hb⟩ : ∃ b, (w.alloc (ringObj cap first ra rl rc ca cl cc)).heap.size + 1 = b := ⟨_, rfl⟩
  have hbb : w.heap.size ≤ b := by rw [← hb]; simp; omega
  rw [hb] at hw1 ⊢
  have HA : Hid _ := fun (_ : Unit) => impl_asked recs curs b w w1 HI.out HT.out (below_tr hB0.out hb1) hbb hw1
  clear hb1 hw1 hz1 hb
  obtain ⟨R, hR⟩ : ∃ R, ringRightB cap first recs curs = R := ⟨_, rfl⟩
  rw [hR] at HA HE HF
  clear hR
  go_wp2_with fail
  refine (HA.out ()).mono ?_
  rintro e w2 ⟨rfl, hA2, _⟩
  have HA2 : Hid (Asked w w2 b cap first ra rl rc ca cl cc curs) := hA2
  clear hA2
  cases R
  · have HE' : Hid (endOf cap first recs curs = 0) := HE.out.trans (by simp)
    clear HE
    go_wp2
    go_ret
    exact ⟨ret_int HE'.out.symm, HA2.out.below⟩
  · have HE' : Hid (endOf cap first recs curs = first + (rl : Int)) := HE.out.trans (by simp)
    clear HE
    obtain ⟨d, l, hW, _⟩ := HA2.out.work
    have HW : Hid (Work w2 b cap first ra rl rc ca cl cc d 0 l) := hW
    clear hW
    have hff := HF.out rfl
    go_wp2_with fail
    refine (impl_end b d 0 l _ HW.out hff HI.out.rle).mono ?_
    rintro e w3 ⟨rfl, hb3⟩
    have hB3 : Hid (Below w.heap.size w w3) := below_tr HA2.out.below hb3
    clear hb3
    go_wp2
    go_ret
    exact ⟨ret_int HE'.out.symm, hB3.out⟩
set_option maxRecDepth 100000 in
set_option maxHeartbeats 1000000 in
theorem impl_ringRoom (recs : List ByteArray) (curs : List (Int × Int)) (w : World) (hi : RIn w ra rl rc ca cl cc recs curs) (hT : utabs w) :
    Calls Tryz.prog 28 #[ringV cap first ra rl rc ca cl cc] w fun e w' => e = .returned (.int .i64 (roomOf cap first recs curs)) ∧ Below w.heap.size w w' := by
  have HI : Hid (RIn w ra rl rc ca cl cc recs curs) := hi
  have HT : Hid (utabs w) := hT
  have HE : Hid (roomOf cap first recs curs = if ringRightB cap first recs curs then cap - (rl : Int) else 0) := by show _ = _; rw [← hi.strs.1]; rfl
  have HF : Hid (ringRightB cap first recs curs = true → 4 ≤ cap ∧ cap ≤ 16) := fun h => (right_first h).2.1
  clear hi hT
  have hB0 : Hid (Below w.heap.size w (w.alloc (ringObj cap first ra rl rc ca cl cc))) := (Below.refl _ _).alloc (Nat.le_refl _) _
  go_enter Tryz.func28, Tryz.ntmps28
  go_wp2_with fail
  refine (impl_atWork _).mono ?_
  rintro e w1 ⟨rfl, hb1, hw1, hz1⟩
  obtain ⟨b, hb⟩ : ∃ b, (w.alloc (ringObj cap first ra rl rc ca cl cc)).heap.size + 1 = b := ⟨_, rfl⟩
  have hbb : w.heap.size ≤ b := by rw [← hb]; simp; omega
  rw [hb] at hw1 ⊢
  have HA : Hid _ := fun (_ : Unit) => impl_asked recs curs b w w1 HI.out HT.out (below_tr hB0.out hb1) hbb hw1
  clear hb1 hw1 hz1 hb
  obtain ⟨R, hR⟩ : ∃ R, ringRightB cap first recs curs = R := ⟨_, rfl⟩
  rw [hR] at HA HE HF
  clear hR
  go_wp2_with fail
  refine (HA.out ()).mono ?_
  rintro e w2 ⟨rfl, hA2, _⟩
  have HA2 : Hid (Asked w w2 b cap first ra rl rc ca cl cc curs) := hA2
  clear hA2
  cases R
  · have HE' : Hid (roomOf cap first recs curs = 0) := HE.out.trans (by simp)
    clear HE
    go_wp2
    go_ret
    exact ⟨ret_int HE'.out.symm, HA2.out.below⟩
  · have HE' : Hid (roomOf cap first recs curs = cap - (rl : Int)) := HE.out.trans (by simp)
    clear HE
    obtain ⟨d, l, hW, _⟩ := HA2.out.work
    have HW : Hid (Work w2 b cap first ra rl rc ca cl cc d 0 l) := hW
    clear hW
    have hcap := HF.out rfl
    go_wp2_with fail
    refine (impl_room b d 0 l _ HW.out (by omega) HI.out.rle).mono ?_
    rintro e w3 ⟨rfl, hb3⟩
    have hB3 : Hid (Below w.heap.size w w3) := below_tr HA2.out.below hb3
    clear hb3
    go_wp2
    go_ret
    exact ⟨ret_int HE'.out.symm, hB3.out⟩
theorem spec_room (cap first : Int) (ra : Option Addr) (rl rc : Nat) (ca : Option Addr) (cl cc : Nat) (w : World) (h : 0 ≤ cap ∧ cap ≤ 1000000) (hl : rl ≤ 1048576) :
    Calls Tryz.prog 72 #[ringV cap first ra rl rc ca cl cc] w fun e w' => e = .returned (.int .i64 (cap - (rl : Int))) ∧ Below w.heap.size w w' := by
  go_enter Tryz.func72, Tryz.ntmps72
  go_wp2
  go_ret
  exact ⟨rfl, (Below.refl _ _).alloc (Nat.le_refl _) _⟩
set_option maxHeartbeats 1000000 in
theorem spec_ringEnd (recs : List ByteArray) (curs : List (Int × Int)) (w : World) (hi : RIn w ra rl rc ca cl cc recs curs) :
    Calls Tryz.prog 27 #[ringV cap first ra rl rc ca cl cc] w fun e w' => e = .returned (.int .i64 (endOf cap first recs curs)) ∧ Below w.heap.size w w' := by
  have hB0 : Hid (Below w.heap.size w (w.alloc (ringObj cap first ra rl rc ca cl cc))) := (Below.refl _ _).alloc (Nat.le_refl _) _
  have HS : Hid _ := fun w (hi : RIn w ra rl rc ca cl cc recs curs) => spec_ringRight cap first ra rl rc ca cl cc recs curs w hi.strs hi.curs hi.sz' hi.rle hi.cle
  have HE : Hid (endOf cap first recs curs = if ringRightB cap first recs curs then first + (rl : Int) else 0) := by show _ = _; rw [← hi.strs.1]; rfl
  have HF : Hid (ringRightB cap first recs curs = true → 0 ≤ first ∧ first ≤ 1000000) := fun h => (right_first h).1
  have HI : Hid (RIn w ra rl rc ca cl cc recs curs) := hi
  clear hi
  obtain ⟨R, hR⟩ : ∃ R, ringRightB cap first recs curs = R := ⟨_, rfl⟩
  rw [hR] at HS HE HF
  clear hR
  cases R
  · have HE' : Hid (endOf cap first recs curs = 0) := HE.out.trans (by simp)
    clear HE HF
    go_enter Tryz.func27, Tryz.ntmps27
    go_wp2_with fail
    refine (HS.out _ (HI.out.below hB0.out)).mono ?_
    rintro e w1 ⟨rfl, hb1⟩
    have hB1 : Hid (Below w.heap.size w w1) := below_tr hB0.out hb1
    clear hb1
    go_wp2
    go_ret
    exact ⟨ret_int HE'.out.symm, hB1.out⟩
  · have HE' : Hid (endOf cap first recs curs = first + (rl : Int)) := HE.out.trans (by simp)
    have hff := HF.out rfl
    clear HE HF
    go_enter Tryz.func27, Tryz.ntmps27
    go_wp2_with fail
    refine (HS.out _ (HI.out.below hB0.out)).mono ?_
    rintro e w1 ⟨rfl, hb1⟩
    have hc1 := fun o => hb1.cell (p := ⟨w.heap.size, o, none⟩) (by simp)
    have hB1 : Hid (Below w.heap.size w w1) := below_tr hB0.out hb1
    clear hb1
    go_wp2_with fail
    refine (spec_end cap first ra rl rc ca cl cc _ hff HI.out.rle).mono ?_
    rintro e w2 ⟨rfl, hb2⟩
    have hB2 : Hid (Below w.heap.size w w2) := below_tr hB1.out hb2
    clear hb2
    go_wp2
    go_ret
    exact ⟨ret_int HE'.out.symm, hB2.out⟩
set_option maxHeartbeats 1000000 in
theorem spec_ringRoom (recs : List ByteArray) (curs : List (Int × Int)) (w : World) (hi : RIn w ra rl rc ca cl cc recs curs) :
    Calls Tryz.prog 29 #[ringV cap first ra rl rc ca cl cc] w fun e w' => e = .returned (.int .i64 (roomOf cap first recs curs)) ∧ Below w.heap.size w w' := by
  have hB0 : Hid (Below w.heap.size w (w.alloc (ringObj cap first ra rl rc ca cl cc))) := (Below.refl _ _).alloc (Nat.le_refl _) _
  have HS : Hid _ := fun w (hi : RIn w ra rl rc ca cl cc recs curs) => spec_ringRight cap first ra rl rc ca cl cc recs curs w hi.strs hi.curs hi.sz' hi.rle hi.cle
  have HE : Hid (roomOf cap first recs curs = if ringRightB cap first recs curs then cap - (rl : Int) else 0) := by show _ = _; rw [← hi.strs.1]; rfl
  have HF : Hid (ringRightB cap first recs curs = true → 0 ≤ cap ∧ cap ≤ 1000000) := fun h => by have := (right_first h).2.1; omega
  have HI : Hid (RIn w ra rl rc ca cl cc recs curs) := hi
  clear hi
  obtain ⟨R, hR⟩ : ∃ R, ringRightB cap first recs curs = R := ⟨_, rfl⟩
  rw [hR] at HS HE HF
  clear hR
  cases R
  · have HE' : Hid (roomOf cap first recs curs = 0) := HE.out.trans (by simp)
    clear HE HF
    go_enter Tryz.func29, Tryz.ntmps29
    go_wp2_with fail
    refine (HS.out _ (HI.out.below hB0.out)).mono ?_
    rintro e w1 ⟨rfl, hb1⟩
    have hB1 : Hid (Below w.heap.size w w1) := below_tr hB0.out hb1
    clear hb1
    go_wp2
    go_ret
    exact ⟨ret_int HE'.out.symm, hB1.out⟩
  · have HE' : Hid (roomOf cap first recs curs = cap - (rl : Int)) := HE.out.trans (by simp)
    have hff := HF.out rfl
    clear HE HF
    go_enter Tryz.func29, Tryz.ntmps29
    go_wp2_with fail
    refine (HS.out _ (HI.out.below hB0.out)).mono ?_
    rintro e w1 ⟨rfl, hb1⟩
    have hc1 := fun o => hb1.cell (p := ⟨w.heap.size, o, none⟩) (by simp)
    have hB1 : Hid (Below w.heap.size w w1) := below_tr hB0.out hb1
    clear hb1
    go_wp2_with fail
    refine (spec_room cap first ra rl rc ca cl cc _ hff HI.out.rle).mono ?_
    rintro e w2 ⟨rfl, hb2⟩
    have hB2 : Hid (Below w.heap.size w w2) := below_tr hB1.out hb2
    clear hb2
    go_wp2
    go_ret
    exact ⟨ret_int HE'.out.symm, hB2.out⟩
end Go.Proofs.YtopbfjdjlgecpaaGreatDoor
