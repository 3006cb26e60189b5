import Derived.Test.YtbbaghlmialaoaaGreatDoorSpecMove
import Derived.Test.YtbbaghlmialaoaaGreatDoorRingAtI
import Derived.Test.YtbbaghlmialaoaaGreatDoorRingPut
import Derived.Test.YtbbaghlmialaoaaGreatDoorLawRec
import Derived.Test.YtbbaghlmialaoaaGreatDoorRingNew
/- A ring stays right: plain mathematics on what the calls answer. -/
namespace Go.Proofs.YtbbaghlmialaoaaGreatDoor
open Go.RowKit

/-- The cursors, as a row that rises. -/
theorem scursOk_iff (first fin : Int) : ∀ (p : Option Int) (l : List (Int × Int)), cursOk first fin p l = true ↔
    (∀ c ∈ l, (1 ≤ c.1 ∧ c.1 ≤ 9) ∧ (first ≤ c.2 ∧ c.2 ≤ fin) ∧ ∀ q, p = some q → q < c.1) ∧ l.Pairwise (fun c d => c.1 < d.1)
  | p, [] => by simp [cursOk]
  | p, c :: r => by
    have ih := scursOk_iff first fin (some c.1) r
    unfold cursOk
    simp only [Bool.and_eq_true, decide_eq_true_eq, ih, List.pairwise_cons]
    constructor
    · rintro ⟨⟨⟨h1, h2⟩, h3⟩, h4, h5⟩
      have hp : ∀ q, p = some q → q < c.1 := fun q e => by subst e; simpa using h3
      refine ⟨fun x hx => ?_, fun x hx => (h4 x hx).2.2 c.1 rfl, h5⟩
      rcases List.mem_cons.1 hx with rfl | hx
      · exact ⟨h1, h2, hp⟩
      · exact ⟨(h4 x hx).1, (h4 x hx).2.1, fun q e => Int.lt_trans (hp q e) ((h4 x hx).2.2 c.1 rfl)⟩
    · rintro ⟨h1, h2, h3⟩
      have hc := h1 c (List.mem_cons_self ..)
      refine ⟨⟨⟨hc.1, hc.2.1⟩, ?_⟩, fun x hx => ⟨(h1 x (List.mem_cons_of_mem _ hx)).1, (h1 x (List.mem_cons_of_mem _ hx)).2.1, fun q e => ?_⟩, h3⟩
      · cases p with
        | none => rfl
        | some q => simpa using hc.2.2 q rfl
      · cases e
        exact h2 x hx
/-- What a right ring is, in words. -/
theorem sright_iff (cap first : Int) (recs : List ByteArray) (curs : List (Int × Int)) : ringRightB cap first recs curs = true ↔
    capB cap = true ∧ (0 ≤ first ∧ first ≤ 1000000) ∧ (recs.length : Int) ≤ cap ∧ first + (recs.length : Int) ≤ 1000000 ∧ curs.length ≤ 4 ∧ recsOk recs = true ∧
      (∀ c ∈ curs, (1 ≤ c.1 ∧ c.1 ≤ 9) ∧ first ≤ c.2 ∧ c.2 ≤ first + (recs.length : Int)) ∧ curs.Pairwise (fun c d => c.1 < d.1) ∧ curLeast first curs = first := by
  unfold ringRightB
  simp only [Bool.and_eq_true, decide_eq_true_eq, scursOk_iff]
  constructor
  · rintro ⟨⟨⟨⟨⟨⟨⟨h1, h2⟩, h3⟩, h4⟩, h5⟩, h6⟩, h7, h8⟩, h9⟩
    exact ⟨h1, h2, h3, h4, h5, h6, fun c hc => ⟨(h7 c hc).1, (h7 c hc).2.1⟩, h8, h9⟩
  · rintro ⟨h1, h2, h3, h4, h5, h6, h7, h8, h9⟩
    exact ⟨⟨⟨⟨⟨⟨⟨h1, h2⟩, h3⟩, h4⟩, h5⟩, h6⟩, fun c hc => ⟨(h7 c hc).1, (h7 c hc).2, fun q e => by cases e⟩, h8⟩, h9⟩
/-- The least of the places is one of them, and no greater than any. -/
theorem least_le (l : List (Int × Int)) : ∀ n, l.foldl (fun n x => min n x.2) n ≤ n ∧ ∀ c ∈ l, l.foldl (fun n x => min n x.2) n ≤ c.2 := by
  induction l with
  | nil => intro n; simp
  | cons x r ih =>
    intro n
    simp only [List.foldl_cons]
    have h := ih (min n x.2)
    refine ⟨by omega, fun c hc => ?_⟩
    rcases List.mem_cons.1 hc with rfl | hc
    · omega
    · exact h.2 c hc
theorem scurLeast_le {first : Int} {l : List (Int × Int)} : ∀ c ∈ l, curLeast first l ≤ c.2 := by
  cases l with
  | nil => intro c hc; simp at hc
  | cons x r => exact (least_le (x :: r) x.2).2
theorem curLeast_mem {first : Int} {l : List (Int × Int)} (h : l ≠ []) : ∃ c ∈ l, curLeast first l = c.2 := by
  cases l with
  | nil => exact absurd rfl h
  | cons x r =>
    show ∃ c ∈ x :: r, (x :: r).foldl (fun n x => min n x.2) x.2 = c.2
    rcases foldl_min_mem (x :: r) x.2 with h1 | ⟨c, hc, h1⟩
    · exact ⟨x, List.mem_cons_self .., h1⟩
    · exact ⟨c, hc, h1⟩
theorem curLeast_eq {first n : Int} {l : List (Int × Int)} (h : l ≠ [] ∨ first = n) (hge : ∀ c ∈ l, n ≤ c.2) (hex : l = [] ∨ ∃ c ∈ l, c.2 = n) : curLeast first l = n := by
  cases l with
  | nil =>
    rcases h with h | h
    · exact absurd rfl h
    · exact h
  | cons x r =>
    obtain ⟨c, hc, e⟩ := curLeast_mem (first := first) (l := x :: r) (by simp)
    have h1 := hge c hc
    rcases hex with h2 | ⟨d, hd, e2⟩
    · simp at h2
    · have := scurLeast_le (first := first) d hd
      omega
theorem recOk_text {k t : Int} {d : ByteArray} (h : recRightB k t d = true) : recOkB (recText k t d) = true := by
  unfold recOkB recText
  rw [readRes_back h]
  rfl
/-- Putting leaves a ring right. -/
theorem put_stays {cap first : Int} {recs : List ByteArray} {curs : List (Int × Int)} {k t : Int} {d : ByteArray} (h : (putR cap first recs curs k t d).c = 0) :
    ringRightB cap first recs curs = true ∧ recRightB k t d = true ∧ putR cap first recs curs k t d = RO.ring cap first (recs ++ [recText k t d]) curs ∧ ringRightB cap first (recs ++ [recText k t d]) curs = true := by
  unfold putR at h ⊢
  split at h
  · simp [RO.ill] at h
  rename_i h1
  rw [if_neg h1]
  split at h
  · simp [RO.ill] at h
  rename_i h2
  rw [if_neg h2]
  simp only [not_or, Bool.not_eq_false] at h1 h2
  refine ⟨h1.1, h1.2, rfl, ?_⟩
  obtain ⟨a1, a2, a3, a4, a5, a6, a7, a8, a9⟩ := (sright_iff ..).1 h1.1
  refine (sright_iff ..).2 ⟨a1, a2, by simp; omega, by simp; omega, a5, ?_, fun c hc => ?_, a8, a9⟩
  · unfold recsOk at a6 ⊢
    rw [List.all_append, a6]
    simp [recOk_text h1.2]
  · have := a7 c hc
    exact ⟨this.1, this.2.1, by simp; omega⟩
theorem pair_take_drop {l : List (Int × Int)} {k : Nat} (h : l.Pairwise (fun c d => c.1 < d.1)) : (l.take k ++ l.drop (k + 1)).Pairwise (fun c d => c.1 < d.1) := by
  have h1 : (l.take k ++ l.drop k).Pairwise (fun c d => c.1 < d.1) := by rw [List.take_append_drop]; exact h
  rw [List.pairwise_append] at h1 ⊢
  have hs : ∀ x ∈ l.drop (k + 1), x ∈ l.drop k := fun x hx => by
    rw [← List.drop_drop] at hx
    exact List.mem_of_mem_drop hx
  refine ⟨h1.1, ?_, fun a ha b hb => h1.2.2 a ha b (hs b hb)⟩
  rw [← List.drop_drop]
  exact h1.2.1.drop
/-- Of any cursors that a right ring may have: cut at the least, it is right. -/
theorem trim_stays {cap first : Int} {recs : List ByteArray} {cs : List (Int × Int)} (h1 : capB cap = true) (h2 : 0 ≤ first ∧ first ≤ 1000000) (h3 : (recs.length : Int) ≤ cap) (h4 : first + (recs.length : Int) ≤ 1000000) (h5 : cs.length ≤ 4) (h6 : recsOk recs = true)
    (h7 : ∀ c ∈ cs, (1 ≤ c.1 ∧ c.1 ≤ 9) ∧ first ≤ c.2 ∧ c.2 ≤ first + (recs.length : Int)) (h8 : cs.Pairwise (fun c d => c.1 < d.1)) :
    ringRightB cap (curLeast first cs) (recs.drop (curLeast first cs - first).toNat) cs = true ∧ first ≤ curLeast first cs ∧ curLeast first cs ≤ first + (recs.length : Int) := by
  have hin := curLeast_in first (first + (recs.length : Int)) cs (by omega) (fun c hc => (h7 c hc).2)
  refine ⟨(sright_iff ..).2 ⟨h1, by omega, by simp; omega, by simp; omega, h5, ?_, fun c hc => ⟨(h7 c hc).1, scurLeast_le c hc, ?_⟩, h8, ?_⟩, hin⟩
  · unfold recsOk at h6 ⊢
    rw [List.all_eq_true] at h6 ⊢
    exact fun s hs => h6 s (List.mem_of_mem_drop hs)
  · have := (h7 c hc).2.2
    simp
    omega
  · cases cs with
    | nil => rfl
    | cons x r =>
      obtain ⟨c, hc, e⟩ := curLeast_mem (first := first) (l := x :: r) (by simp)
      exact curLeast_eq (.inl (by simp)) (fun c hc => scurLeast_le c hc) (.inr ⟨c, hc, e.symm⟩)
/-- Leaving leaves a ring right. -/
theorem leave_stays {cap first : Int} {recs : List ByteArray} {curs : List (Int × Int)} {g : Int} (h : (leaveR cap first recs curs g).c = 0) :
    ringRightB (leaveR cap first recs curs g).cap (leaveR cap first recs curs g).first (leaveR cap first recs curs g).recs (leaveR cap first recs curs g).curs = true := by
  unfold leaveR at h ⊢
  split at h
  · simp [RO.ill] at h
  rename_i h1
  rw [if_neg h1]
  split at h
  · simp [RO.ill] at h
  rename_i h2
  rw [if_neg h2]
  simp only [Bool.not_eq_false] at h1 h2
  obtain ⟨a1, a2, a3, a4, a5, a6, a7, a8, a9⟩ := (sright_iff ..).1 h1
  refine (trim_stays a1 a2 a3 a4 ?_ a6 (fun c hc => a7 c ?_) (pair_take_drop a8)).1
  · simp; omega
  · rcases List.mem_append.1 hc with hc | hc
    · exact List.mem_of_mem_take hc
    · exact List.mem_of_mem_drop hc
theorem find_low {g : Int} {l : List (Int × Int)} : ∀ c ∈ l.take (findK g l), c.1 < g := fun c hc => by
  obtain ⟨j, hj, rfl⟩ := List.getElem_of_mem hc
  have hj' : j < findK g l := by simp at hj; omega
  rw [List.getElem_take]
  have h := List.not_of_lt_findIdx (p := fun c : Int × Int => decide (g ≤ c.1)) (xs := l) hj'
  simp at h
  omega
theorem find_ge {g : Int} {l : List (Int × Int)} (h : findK g l < l.length) : g ≤ (l[findK g l]).1 := by
  have := List.findIdx_getElem (p := fun c : Int × Int => decide (g ≤ c.1)) (xs := l) (w := h)
  exact of_decide_eq_true this
theorem find_high {g : Int} {l : List (Int × Int)} (hp : l.Pairwise (fun c d => c.1 < d.1)) (hf : findB g l = false) : ∀ c ∈ l.drop (findK g l), g < c.1 := fun c hc => by
  have hk : findK g l < l.length := by
    rcases Nat.lt_or_ge (findK g l) l.length with h | h
    · exact h
    · rw [List.drop_eq_nil_of_le h] at hc
      simp at hc
  have h1 := find_ge hk
  have h2 : (l[findK g l]).1 ≠ g := fun e => by
    unfold findB at hf
    rw [List.getElem?_eq_getElem hk] at hf
    simp [e] at hf
  rw [List.drop_eq_getElem_cons hk] at hc
  rcases List.mem_cons.1 hc with rfl | hc
  · omega
  · have hd : (l.drop (findK g l)).Pairwise (fun c d => c.1 < d.1) := hp.drop
    rw [List.drop_eq_getElem_cons hk, List.pairwise_cons] at hd
    have := hd.1 c hc
    omega
/-- Following leaves a ring right. -/
theorem follow_stays {cap first : Int} {recs : List ByteArray} {curs : List (Int × Int)} {g : Int} (h : (followR cap first recs curs g).c = 0) :
    ringRightB (followR cap first recs curs g).cap (followR cap first recs curs g).first (followR cap first recs curs g).recs (followR cap first recs curs g).curs = true := by
  unfold followR at h ⊢
  split at h
  · simp [RO.ill] at h
  rename_i h1
  rw [if_neg h1]
  split at h
  · simp [RO.ill] at h
  rename_i h2
  rw [if_neg h2]
  split at h
  · simp [RO.ill] at h
  rename_i h3
  rw [if_neg h3]
  simp only [not_or, Bool.not_eq_false, Decidable.not_not] at h1
  simp only [Bool.not_eq_true] at h2
  obtain ⟨a1, a2, a3, a4, a5, a6, a7, a8, a9⟩ := (sright_iff ..).1 h1.1
  have hmem : ∀ c, c ∈ curs.take (findK g curs) ++ (g, first) :: curs.drop (findK g curs) → c = (g, first) ∨ c ∈ curs := fun c hc => by
    rcases List.mem_append.1 hc with hc | hc
    · exact .inr (List.mem_of_mem_take hc)
    · rcases List.mem_cons.1 hc with hc | hc
      · exact .inl hc
      · exact .inr (List.mem_of_mem_drop hc)
  refine (sright_iff ..).2 ⟨a1, a2, a3, a4, ?_, a6, fun c hc => ?_, ?_, ?_⟩
  · simp only [RO.ring, List.length_append, List.length_cons, List.length_take, List.length_drop]
    have := findK_le g curs
    omega
  · rcases hmem c hc with rfl | hc
    · exact ⟨h1.2, by simp [RO.ring], by simp [RO.ring]; omega⟩
    · exact a7 c hc
  · show (curs.take (findK g curs) ++ (g, first) :: curs.drop (findK g curs)).Pairwise (fun c d => c.1 < d.1)
    have hp : (curs.take (findK g curs) ++ curs.drop (findK g curs)).Pairwise (fun c d => c.1 < d.1) := by rw [List.take_append_drop]; exact a8
    rw [List.pairwise_append] at hp ⊢
    refine ⟨hp.1, List.pairwise_cons.2 ⟨fun c hc => find_high a8 h2 c hc, hp.2.1⟩, fun a ha b hb => ?_⟩
    rcases List.mem_cons.1 hb with rfl | hb
    · exact find_low a ha
    · exact hp.2.2 a ha b hb
  · refine curLeast_eq (.inl (by simp [RO.ring])) (fun c hc => ?_) (.inr ⟨(g, first), by simp [RO.ring], rfl⟩)
    rcases hmem c hc with rfl | hc
    · exact Int.le_refl _
    · exact (a7 c hc).2.1
theorem find_is {g : Int} {l : List (Int × Int)} (h : findB g l = true) : ∃ hk : findK g l < l.length, (l[findK g l]).1 = g := by
  have hk := find_lt h
  refine ⟨hk, ?_⟩
  unfold findB at h
  rw [List.getElem?_eq_getElem hk] at h
  simpa using h
/-- Moving leaves a ring right; what is told of it. -/
theorem move_stays {cap first : Int} {recs : List ByteArray} {curs : List (Int × Int)} {g at' : Int} (h : (moveR cap first recs curs g at').c = 0) :
    ∃ cs : List (Int × Int), ringRightB cap first recs curs = true ∧ moveR cap first recs curs g at' = trimR cap first recs cs ∧ ringRightB cap (curLeast first cs) (recs.drop (curLeast first cs - first).toNat) cs = true ∧ first ≤ curLeast first cs ∧ curLeast first cs ≤ first + (recs.length : Int) := by
  unfold moveR at h ⊢
  split at h
  · simp [RO.ill] at h
  rename_i h1
  rw [if_neg h1]
  split at h
  · simp [RO.ill] at h
  rename_i h2
  rw [if_neg h2]
  split at h
  · simp [RO.ill] at h
  rename_i h3
  rw [if_neg h3]
  simp only [Bool.not_eq_false] at h1 h2
  simp only [not_or, Int.not_lt] at h3
  obtain ⟨a1, a2, a3, a4, a5, a6, a7, a8, a9⟩ := (sright_iff ..).1 h1
  obtain ⟨hk, hg⟩ := find_is h2
  have hgm := a7 _ (List.getElem_mem hk)
  have hget : curs.getD (findK g curs) (0, 0) = curs[findK g curs] := by rw [List.getD_eq_getElem?_getD, List.getElem?_eq_getElem hk]; rfl
  rw [hget] at h3
  have hmem : ∀ c, c ∈ curs.take (findK g curs) ++ (g, at') :: curs.drop (findK g curs + 1) → c = (g, at') ∨ c ∈ curs := fun c hc => by
    rcases List.mem_append.1 hc with hc | hc
    · exact .inr (List.mem_of_mem_take hc)
    · rcases List.mem_cons.1 hc with hc | hc
      · exact .inl hc
      · exact .inr (List.mem_of_mem_drop hc)
  refine ⟨_, h1, rfl, trim_stays a1 a2 a3 a4 ?_ a6 (fun c hc => ?_) ?_⟩
  · simp only [List.length_append, List.length_cons, List.length_take, List.length_drop]
    omega
  · rcases hmem c hc with rfl | hc
    · exact ⟨hg ▸ hgm.1, by omega, h3.2⟩
    · exact a7 c hc
  · have hp : (curs.take (findK g curs) ++ curs[findK g curs] :: curs.drop (findK g curs + 1)).Pairwise (fun c d => c.1 < d.1) := by
      rw [← List.drop_eq_getElem_cons hk, List.take_append_drop]
      exact a8
    have e : ((curs.take (findK g curs) ++ (g, at') :: curs.drop (findK g curs + 1)).map Prod.fst) = ((curs.take (findK g curs) ++ curs[findK g curs] :: curs.drop (findK g curs + 1)).map Prod.fst) := by
      simp only [List.map_append, List.map_cons, hg]
    have hm : ((curs.take (findK g curs) ++ curs[findK g curs] :: curs.drop (findK g curs + 1)).map Prod.fst).Pairwise (· < ·) := List.pairwise_map.2 hp
    rw [← e] at hm
    exact List.pairwise_map.1 hm
theorem new_stays {n : Int} (h : newCode n = 0) : ringRightB (newCap n) 0 [] [] = true := by
  unfold newCode at h
  split at h
  · rename_i hc
    unfold newCap
    rw [if_pos hc]
    have h16 : 4 ≤ n := by
      unfold capB at hc
      simp only [Bool.or_eq_true, beq_iff_eq] at hc
      omega
    exact (sright_iff ..).2 ⟨hc, by omega, by simp; omega, by simp, by simp, rfl, by simp, List.Pairwise.nil, rfl⟩
  · omega
/-- What stands in a ring that was put to. -/
theorem put_at {recs : List ByteArray} {k t : Int} {d : ByteArray} (h : recRightB k t d = true) : recAt (recs ++ [recText k t d]) recs.length = (k, t, d, 0) := by
  unfold recAt
  have e : (recs ++ [recText k t d]).getD recs.length ⟨#[]⟩ = recText k t d := by simp [List.getD_eq_getElem?_getD]
  rw [e]
  unfold recText
  exact readRes_back h
theorem drop_at (recs : List ByteArray) (P j : Nat) : recAt (recs.drop P) j = recAt recs (P + j) := by
  unfold recAt
  simp [List.getD_eq_getElem?_getD, List.getElem?_drop]
end Go.Proofs.YtbbaghlmialaoaaGreatDoor
/- What FnRing's own sentence asks of the answers: plain mathematics. -/
namespace Go.Proofs.YtbbaghlmialaoaaGreatDoor
open Go.RowKit
/-- What was put is the last; the end is one more, the room one less. -/
theorem put_last {cap first : Int} {recs : List ByteArray} {curs : List (Int × Int)} {k t : Int} {d : ByteArray} (h : (putR cap first recs curs k t d).c = 0) :
    endOf cap first (recs ++ [recText k t d]) curs = endOf cap first recs curs + 1 ∧ roomOf cap first (recs ++ [recText k t d]) curs = roomOf cap first recs curs - 1 ∧
      atR cap first (recs ++ [recText k t d]) curs (endOf cap first recs curs) = ⟨cap, first, recs ++ [recText k t d], curs, k, t, d, 0⟩ := by
  obtain ⟨h1, h2, _, h4⟩ := put_stays h
  have e1 : endOf cap first recs curs = first + (recs.length : Int) := by unfold endOf; rw [if_pos h1]
  refine ⟨?_, ?_, ?_⟩
  · unfold endOf
    rw [if_pos h1, if_pos h4]
    simp
    omega
  · unfold roomOf
    rw [if_pos h1, if_pos h4]
    simp
    omega
  · unfold atR
    rw [if_neg (by rw [h4]; simp), e1, if_neg (by simp; omega)]
    have e2 : (first + (recs.length : Int) - first).toNat = recs.length := by omega
    rw [e2, put_at h2]
/-- Of what moved nothing goes that somebody has not passed: the cursors stand behind First, the records stand as they stood. -/
theorem move_kept {cap first : Int} {recs : List ByteArray} {curs : List (Int × Int)} {g at' : Int} (h : (moveR cap first recs curs g at').c = 0) :
    (∀ c ∈ (moveR cap first recs curs g at').curs, (moveR cap first recs curs g at').first ≤ c.2) ∧
      ∀ x : Int, (moveR cap first recs curs g at').first ≤ x → x < (moveR cap first recs curs g at').first + ((moveR cap first recs curs g at').recs.length : Int) →
        (atR (moveR cap first recs curs g at').cap (moveR cap first recs curs g at').first (moveR cap first recs curs g at').recs (moveR cap first recs curs g at').curs x).k = (atR cap first recs curs x).k ∧
        (atR (moveR cap first recs curs g at').cap (moveR cap first recs curs g at').first (moveR cap first recs curs g at').recs (moveR cap first recs curs g at').curs x).t = (atR cap first recs curs x).t ∧
        (atR (moveR cap first recs curs g at').cap (moveR cap first recs curs g at').first (moveR cap first recs curs g at').recs (moveR cap first recs curs g at').curs x).d = (atR cap first recs curs x).d := by
  obtain ⟨cs, h1, e, h4, h5, h6⟩ := move_stays h
  rw [e]
  obtain ⟨b1, b2, b3, b4, b5, b6, b7, b8, b9⟩ := (sright_iff ..).1 h4
  refine ⟨fun c hc => (b7 c hc).2.1, fun x hx1 hx2 => ?_⟩
  simp only [trimR, RO.ring] at hx1 hx2 ⊢
  rw [List.length_drop] at hx2
  have ea : atR cap (curLeast first cs) (recs.drop (curLeast first cs - first).toNat) cs x = ⟨cap, curLeast first cs, recs.drop (curLeast first cs - first).toNat, cs, (recAt recs (x - first).toNat).1, (recAt recs (x - first).toNat).2.1, (recAt recs (x - first).toNat).2.2.1, 0⟩ := by
    unfold atR
    rw [if_neg (by rw [h4]; simp), if_neg (by rw [List.length_drop]; simp only [Decidable.not_not]; omega), drop_at, show (curLeast first cs - first).toNat + (x - curLeast first cs).toNat = (x - first).toNat by omega]
  have eb : atR cap first recs curs x = ⟨cap, first, recs, curs, (recAt recs (x - first).toNat).1, (recAt recs (x - first).toNat).2.1, (recAt recs (x - first).toNat).2.2.1, 0⟩ := by
    unfold atR
    rw [if_neg (by rw [h1]; simp), if_neg (by simp only [Decidable.not_not]; omega)]
  rw [ea, eb]
  exact ⟨rfl, rfl, rfl⟩
/-- A look leaves a ring as it is. -/
theorem at_stays {cap first : Int} {recs : List ByteArray} {curs : List (Int × Int)} {x : Int} (h : (atR cap first recs curs x).c = 0) : ringRightB (atR cap first recs curs x).cap (atR cap first recs curs x).first (atR cap first recs curs x).recs (atR cap first recs curs x).curs = true := by
  unfold atR at h ⊢
  split at h
  · simp [RO.ill] at h
  rename_i h1
  rw [if_neg h1]
  split at h
  · simp [RO.ill] at h
  rename_i h2
  rw [if_neg h2]
  simpa using h1
end Go.Proofs.YtbbaghlmialaoaaGreatDoor
