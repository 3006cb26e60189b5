/- RecRead of the specification answers as RecRead of the program. -/
import Derived.Test.YtblkbpgnhkjaaaaDoorRecSpec3
namespace Go.Proofs.YtblkbpgnhkjaaaaDoor
open Go.RowKit

theorem readRes_seal {s : ByteArray} (h4 : 4 ≤ s.size) (hs : s.size ≤ 8000) (hq : sealedB s = true) {r : Int × Int × ByteArray} (h : recOfRes (s.extract 0 (s.size - 4)) = r) : readRes s = if r.1 = 0 then (0, 0, ⟨#[]⟩, 3) else (r.1, r.2.1, r.2.2, 0) := by
  unfold readRes
  rw [if_neg (by omega), if_neg (by omega), if_neg (by simp [hq]), h]
theorem spec_recRead (s : ByteArray) (w : World) (hm : s.size ≤ maxLen) :
    Calls Tryd.prog 20 #[.string s] w fun e w' => e = .returned (recOutV (readRes s)) ∧ Below w.heap.size w w' := by
  by_cases h1 : 8000 < s.size
  · have e : readRes s = (0, 0, ⟨#[]⟩, 2) := by unfold readRes; rw [if_pos h1]
    rw [e]
    exact spec_read_code s 2 w (by omega) (fun w => spec_unseal_size s w hm h1)
  by_cases h2 : s.size < 4
  · have e : readRes s = (0, 0, ⟨#[]⟩, 4) := by unfold readRes; rw [if_neg h1, if_pos h2]
    rw [e]
    exact spec_read_code s 4 w (by omega) (fun w => spec_unseal_short s w h2)
  cases h3 : sealedB s
  · have e : readRes s = (0, 0, ⟨#[]⟩, 5) := by unfold readRes; rw [if_neg h1, if_neg h2, if_pos h3]
    rw [e]
    exact spec_read_code s 5 w (by omega) (fun w => spec_unseal_bad s w (by omega) (by omega) h3)
  have HU := fun w => spec_unseal_good s w (by omega) (by omega) h3
  have hres := fun r h => readRes_seal (s := s) (by omega) (by omega) h3 (r := r) h
  obtain ⟨b, hb⟩ : ∃ b, s.extract 0 (s.size - 4) = b := ⟨_, rfl⟩
  rw [hb] at HU hres
  have hbs : b.size ≤ 8000 := by rw [← hb]; simp; omega
  have hbm : b.size ≤ maxLen := by unfold maxLen; omega
  have H1 := fun w => spec_getNum b 0 w hbm
  have H2 := fun a w => spec_getNum b a w hbm
  have H3 := fun a w => spec_getText b a w hbm
  have hdm : ∀ a, (textRes b a).1.size ≤ maxLen := fun a => by
    unfold maxLen
    rcases text_cases b a with ⟨c, hc, e⟩ | ⟨N, q', e, hq, hs, hN⟩ | ⟨N, q', e, hq, hs, hN, hlt⟩ | ⟨N, q', e, hq, hs, hN, hlt⟩
    · rw [textRes_bad e hc]; exact Nat.zero_le _
    · rw [textRes_len e hN]; exact Nat.zero_le _
    · rw [textRes_short e hN hlt]; exact Nat.zero_le _
    · rw [textRes_good e hN hlt]; simp; omega
  rcases numRes_cases b 0 with ⟨c, hc, e1⟩ | ⟨k, p, e1, hp, _⟩
  · rw [hres _ (recOfRes_1 e1 hc), if_pos rfl]
    rw [e1] at H1
    exact spec_read_1 s b _ _ 0 _ 0 _ _ c _ _ w hc HU H1 (H2 0) (H3 _) (fun w => spec_recBytes 0 _ _ w (hdm _))
  rw [e1] at H1
  rcases numRes_cases b p with ⟨c, hc, e2⟩ | ⟨t, q, e2, hq, _⟩
  · rw [hres _ (recOfRes_2 e1 e2 hc), if_pos rfl]
    have H2' := H2 p
    rw [e2] at H2'
    exact spec_read_2 s b _ _ k 0 p 0 _ 0 c _ w hc HU H1 H2' (H3 _) (fun w => spec_recBytes k _ _ w (hdm _))
  have H2' := H2 p
  rw [e2] at H2'
  have H3' := H3 q
  have hdm' := hdm q
  by_cases hc : (textRes b q).2.2 = 0
  · have h3n : ∃ r : Nat, (textRes b q).2.1 = (r : Int) := by
      rcases text_cases b q with ⟨c, hc', e⟩ | ⟨N, q', e, hq, hs, hN⟩ | ⟨N, q', e, hq, hs, hN, hlt⟩ | ⟨N, q', e, hq, hs, hN, hlt⟩
      · rw [textRes_bad e hc']; exact ⟨0, rfl⟩
      · rw [textRes_len e hN]; exact ⟨0, rfl⟩
      · rw [textRes_short e hN hlt]; exact ⟨0, rfl⟩
      · rw [textRes_good e hN hlt]; exact ⟨_, rfl⟩
    obtain ⟨r, hr⟩ := h3n
    have e3 : textRes b q = ((textRes b q).1, (r : Int), 0) := Prod.ext rfl (Prod.ext hr hc)
    generalize (textRes b q).1 = d at e3 hdm'
    rw [e3] at H3'
    have hsame := rec_same hb.symm h3 (by omega) e1 e2 e3
    by_cases h : ((r : Int) = (b.size : Int) ∧ recRightB k t d = true)
    · have hk := (right_iff.1 h.2).1
      rw [hres _ (recOfRes_5 e1 e2 e3 h.1 h.2), if_neg (by show ¬ k = 0; omega)]
      exact spec_read_5 s b d (recBytes k t d) k t p q r 0 0 0 w (by omega) (by rw [beq_iff_eq, Lib.toList_data]; exact hsame.2 h) HU H1 H2' H3' (fun w => spec_recBytes k t d w hdm')
    · rw [hres _ (recOfRes_4 e1 e2 e3 h), if_pos rfl]
      exact spec_read_4 s b d (recBytes k t d) k t p q r 0 0 0 w (by omega) (by rw [beq_eq_false_iff_ne, Lib.toList_data]; exact fun e => h (hsame.1 e)) HU H1 H2' H3' (fun w => spec_recBytes k t d w hdm')
  · have e3 : textRes b q = ((textRes b q).1, (textRes b q).2.1, (textRes b q).2.2) := rfl
    rw [hres _ (recOfRes_3 e1 e2 e3 hc), if_pos rfl]
    exact spec_read_3 s b _ _ k t p q _ 0 0 _ w hc HU H1 H2' H3' (fun w => spec_recBytes k t _ w hdm')
end Go.Proofs.YtblkbpgnhkjaaaaDoor
