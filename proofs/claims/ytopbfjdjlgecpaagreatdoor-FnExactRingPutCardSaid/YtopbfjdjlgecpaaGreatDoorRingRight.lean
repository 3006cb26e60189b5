/- RingRight of the program, and the ways to ask a ring at work whether it is right. -/
import Derived.Test.YtopbfjdjlgecpaaGreatDoorRingWork5
import Derived.Test.YtopbfjdjlgecpaaGreatDoorRingWork6
import Derived.Test.YtopbfjdjlgecpaaGreatDoorRingRecs
namespace Go.Proofs.YtopbfjdjlgecpaaGreatDoor
open Go.RowKit
variable {cap first : Int} {ra ca : Option Addr} {rl rc cl cc : Nat}

theorem cursOk_iff (first fin : Int) (l : List (Int × Int)) : ∀ p : Option Int, cursOk first fin p l = true ↔
    (∀ c ∈ l, (1 ≤ c.1 ∧ c.1 ≤ 9) ∧ (first ≤ c.2 ∧ c.2 ≤ fin)) ∧ (∀ q, p = some q → ∀ c, l.head? = some c → q < c.1) ∧ (∀ j, ∀ (h : j + 1 < l.length), l[j].1 < l[j + 1].1) := by
  induction l with
  | nil => intro p; simp [cursOk]
  | cons c r ih =>
    intro p
    have e : cursOk first fin p (c :: r) = (decide (1 ≤ c.1 ∧ c.1 ≤ 9) && decide (first ≤ c.2 ∧ c.2 ≤ fin) && (match p with | none => true | some q => decide (q < c.1)) && cursOk first fin (some c.1) r) := rfl
    rw [e]
    simp only [Bool.and_eq_true, decide_eq_true_eq, ih]
    constructor
    · rintro ⟨⟨⟨h1, h2⟩, h3⟩, h4, h5, h6⟩
      refine ⟨fun x hx => ?_, fun q hq x hx => ?_, fun j hj => ?_⟩
      · rcases List.mem_cons.1 hx with rfl | hx
        · exact ⟨h1, h2⟩
        · exact h4 x hx
      · subst hq
        simp at hx
        subst hx
        simpa using h3
      · cases j with
        | zero =>
          have hr0 : 0 < r.length := by simpa using hj
          have : r.head? = some (r[0]'hr0) := by rw [List.head?_eq_getElem?]; exact List.getElem?_eq_getElem hr0
          exact h5 c.1 rfl _ this
        | succ i => exact h6 i (by simpa using hj)
    · rintro ⟨h1, h2, h3⟩
      refine ⟨⟨⟨(h1 c (by simp)).1, (h1 c (by simp)).2⟩, ?_⟩, fun x hx => h1 x (by simp [hx]), fun q hq x hx => ?_, fun j hj => ?_⟩
      · cases p with
        | none => rfl
        | some q => simpa using h2 q rfl c rfl
      · cases hq
        cases r with
        | nil => simp at hx
        | cons y t =>
          simp at hx
          subst hx
          exact h3 0 (by simp)
      · exact h3 (j + 1) (by simpa using hj)
theorem foldl_min_le (l : List (Int × Int)) : ∀ n, l.foldl (fun n x => min n x.2) n ≤ n ∧ ∀ c ∈ l, l.foldl (fun n x => min n x.2) n ≤ c.2 := by
  induction l with
  | nil => intro n; simp
  | cons x r ih =>
    intro n
    have h := ih (min n x.2)
    refine ⟨?_, fun c hc => ?_⟩
    · have := h.1; simp only [List.foldl_cons]; omega
    · simp only [List.foldl_cons]
      rcases List.mem_cons.1 hc with rfl | hc
      · have := h.1; omega
      · exact h.2 c hc
theorem curLeast_le (first : Int) (l : List (Int × Int)) (c : Int × Int) (h : c ∈ l) : curLeast first l ≤ c.2 := by
  cases l with
  | nil => simp at h
  | cons x r => exact (foldl_min_le (x :: r) x.2).2 c h
theorem risesB_iff (l : List (Int × Int)) : risesB l = true ↔ ∀ j, ∀ (h : j + 1 < l.length), l[j].1 < l[j + 1].1 := by
  unfold risesB
  rw [decide_eq_true_eq]
  exact ⟨fun h j hj => h j (by omega) hj, fun h j _ hj => h j hj⟩
theorem curRight_eq (first fin : Int) (l : List (Int × Int)) : curRight first fin l = (cursOk first fin none l && decide (curLeast first l = first)) := by
  rw [Bool.eq_iff_iff]
  simp only [curRight, Bool.and_eq_true, decide_eq_true_eq, cursOk_iff, risesB_iff, List.all_eq_true, curIn]
  constructor
  · rintro ⟨⟨h1, h2⟩, h3⟩
    refine ⟨⟨fun c hc => ?_, fun q hq => by simp at hq, h2⟩, h3⟩
    have := curLeast_le first l c hc
    exact ⟨(h1 c hc).1, by omega, (h1 c hc).2⟩
  · rintro ⟨⟨h1, _, h2⟩, h3⟩
    exact ⟨⟨fun c hc => ⟨(h1 c hc).1, (h1 c hc).2.2⟩, h2⟩, h3⟩
theorem ringRight_eq (cap first : Int) (recs : List ByteArray) (curs : List (Int × Int)) : ringRightB cap first recs curs = (sizesB cap first recs.length curs.length && recsOk recs && curRight first (first + (recs.length : Int)) curs) := by
  rw [curRight_eq]
  simp only [ringRightB, sizesB, Bool.and_assoc]
theorem Still.refl {w : World} {b : Nat} {d l : Int} {curs : List (Int × Int)} (hw : Work w b cap first ra rl rc ca cl cc d 0 l) (hk : Known first curs d l) : Still w w b cap first ra rl rc ca cl cc curs := ⟨grown_of_below (Below.refl _ _) _, d, l, hw, hk⟩
theorem Still.below {w w1 : World} {b : Nat} {d l : Int} {curs : List (Int × Int)} (hb : Below w.heap.size w w1) (hw : Work w b cap first ra rl rc ca cl cc d 0 l) (hk : Known first curs d l) : Still w w1 b cap first ra rl rc ca cl cc curs := ⟨grown_of_below hb _, d, l, hw.below hb, hk⟩
/-- A ring's lists as they came in: they can be read, away from block b and ahead of n. -/
structure Came (w : World) (n b : Nat) (ra : Option Addr) (rl : Nat) (ca : Option Addr) (cl : Nat) (recs : List ByteArray) (curs : List (Int × Int)) : Prop where
  strs : Strs w ra rl recs
  curs : Curs w ca cl curs
  rlt : ∀ x, ra = some x → x.block < n
  clt : ∀ x, ca = some x → x.block < n
  roff : Off b ra
  coff : Off b ca
  sz : ∀ s ∈ recs, s.size ≤ maxLen
  rle : rl ≤ 1048576
  cle : cl ≤ 1048576
theorem Came.below {w w' : World} {n b : Nat} {recs : List ByteArray} {curs : List (Int × Int)} (h : Came w n b ra rl ca cl recs curs) (hb : Below w.heap.size w w') : Came w' n b ra rl ca cl recs curs :=
  ⟨strs_below h.strs hb, curs_below h.curs hb, h.rlt, h.clt, h.roff, h.coff, h.sz, h.rle, h.cle⟩
theorem Came.grown {w w' : World} {n b : Nat} {recs : List ByteArray} {curs : List (Int × Int)} (h : Came w n b ra rl ca cl recs curs) (hg : w.grownBy w' (some b)) : Came w' n b ra rl ca cl recs curs :=
  ⟨strs_grown h.strs hg h.roff, curs_grown h.curs hg h.coff, h.rlt, h.clt, h.roff, h.coff, h.sz, h.rle, h.cle⟩
set_option maxRecDepth 100000 in
set_option maxHeartbeats 4000000 in
theorem impl_right (b : Nat) (d l : Int) (recs : List ByteArray) (curs : List (Int × Int)) (w : World) (hw : Work w b cap first ra rl rc ca cl cc d 0 l) (hk : Known first curs d l) (hC : Came w w.heap.size b ra rl ca cl recs curs) (hT : utabs w) :
    Calls Tryz.prog 45 #[.pointer (some ⟨b, 0, none⟩)] w fun e w' => e = .returned (.bool (ringRightB cap first recs curs)) ∧ Still w w' b cap first ra rl rc ca cl cc curs := by
  have hE : ringRightB cap first recs curs = (sizesB cap first rl cl && recsOk recs && curRight first (first + (rl : Int)) curs) := by rw [ringRight_eq, hC.strs.1, hC.curs.1]
  have HW : Hid (Work w b cap first ra rl rc ca cl cc d 0 l) := hw
  have HK : Hid (Known first curs d l) := hk
  have HC : Hid (Came w w.heap.size b ra rl ca cl recs curs) := hC
  have HT : Hid (utabs w) := hT
  have HS : Hid _ := fun (_ : Unit) => impl_sizesRight b d 0 l w hw hC.rle hC.cle
  have hfirst : sizesB cap first rl cl = true → 0 ≤ first ∧ first ≤ 1000000 := fun h => by simp [sizesB] at h; exact h.1.1.1.2
  clear hw hk hC hT
  cases h1 : sizesB cap first rl cl
  · rw [h1] at HS hE
    have HE : Hid (ringRightB cap first recs curs = false) := hE.trans (by simp)
    clear hE h1 hfirst
    go_enter Tryz.func45, Tryz.ntmps45
    go_wp2_with fail
    refine (HS.out ()).mono ?_
    rintro e w1 ⟨rfl, hb1⟩
    have hS : Hid (Still w w1 b cap first ra rl rc ca cl cc curs) := Still.below hb1 HW.out HK.out
    clear hb1
    go_wp2
    go_ret
    exact ⟨ret_bool HE.out.symm, hS.out⟩
  · rw [h1] at HS hE
    have hf := hfirst h1
    have HR : Hid _ := fun w hw hr hrn hT => impl_recsRight (cap := cap) (first := first) (ra := ra) (rl := rl) (rc := rc) (ca := ca) (cl := cl) (cc := cc) b d 0 l recs w hw hr hrn HC.out.sz hT hf HC.out.rle
    clear hfirst h1
    cases h2 : recsOk recs
    · rw [h2] at hE HR
      have HE : Hid (ringRightB cap first recs curs = false) := hE.trans (by simp)
      clear hE h2
      go_enter Tryz.func45, Tryz.ntmps45
      go_wp2_with fail
      refine (HS.out ()).mono ?_
      rintro e w1 ⟨rfl, hb1⟩
      have hB1 : Hid (Below w.heap.size w w1) := hb1
      clear hb1
      go_wp2_with fail
      refine (HR.out _ (HW.out.below hB1.out) (strs_below HC.out.strs hB1.out) (fun x e => Nat.lt_of_lt_of_le (HC.out.rlt x e) hB1.out.size) (utabs_below HT.out hB1.out)).mono ?_
      rintro e w2 ⟨rfl, hb2⟩
      have hS : Hid (Still w w2 b cap first ra rl rc ca cl cc curs) := Still.below (below_tr hB1.out hb2) HW.out HK.out
      clear hb2
      go_wp2
      go_ret
      exact ⟨ret_bool HE.out.symm, hS.out⟩
    · rw [h2] at hE HR
      have HE : Hid (ringRightB cap first recs curs = curRight first (first + (rl : Int)) curs) := hE.trans (by simp)
      clear hE h2
      go_enter Tryz.func45, Tryz.ntmps45
      go_wp2_with fail
      refine (HS.out ()).mono ?_
      rintro e w1 ⟨rfl, hb1⟩
      have hB1 : Hid (Below w.heap.size w w1) := hb1
      clear hb1
      go_wp2_with fail
      refine (HR.out _ (HW.out.below hB1.out) (strs_below HC.out.strs hB1.out) (fun x e => Nat.lt_of_lt_of_le (HC.out.rlt x e) hB1.out.size) (utabs_below HT.out hB1.out)).mono ?_
      rintro e w2 ⟨rfl, hb2⟩
      have hB2 : Hid (Below w.heap.size w w2) := below_tr hB1.out hb2
      clear hb2
      go_wp2_with fail
      refine (impl_cursorsRight b d l curs _ (HW.out.below hB2.out) HK.out (curs_below HC.out.curs hB2.out) HC.out.coff HC.out.cle hf HC.out.rle).mono ?_
      rintro e w3 ⟨rfl, hS3⟩
      have hS : Hid (Still w w3 b cap first ra rl rc ca cl cc curs) := ⟨(grown_of_below hB2.out _).trans hS3.1, hS3.2⟩
      clear hS3
      obtain ⟨C, hCC⟩ : ∃ C, curRight first (first + (rl : Int)) curs = C := ⟨_, rfl⟩
      rw [hCC] at HE ⊢
      go_wp2
      go_ret
      exact ⟨ret_bool HE.out.symm, hS.out⟩
end Go.Proofs.YtopbfjdjlgecpaaGreatDoor
