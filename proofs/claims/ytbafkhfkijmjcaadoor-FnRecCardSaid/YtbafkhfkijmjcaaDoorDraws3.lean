/- A text that is changed a little. -/
import Derived.Test.YtbafkhfkijmjcaaDoorDraws2
namespace Go.Proofs.YtbafkhfkijmjcaaDoor
open Go.RowKit

theorem src_drew {w : World} {g : Nat} {a : Option Addr} {len cap : Nat} (h : Src w g a len cap) : Src w.drew g a len cap := h
theorem conv1 (w : World) (x : UInt8) (v : Int) (hv : v = (x.toNat : Int)) :
    (convert 22 9 (.slice (some ⟨w.heap.size, 0, none⟩) 1 1)).run Tryd.prog (w.alloc (.cells #[.int .u8 v] 5)) = .ok (.string ⟨#[x]⟩) (w.alloc (.cells #[.int .u8 v] 5)) := by
  subst hv
  have h := conv_own (P := Tryd.prog) (dst := 9) Tryd.underlying22 Tryd.underlying5 Tryd.underlying9 (owns_of_row (w := w.alloc (.cells #[.int .u8 (x.toNat : Int)] 5)) (n := 1) (l := [x]) (cur := [.int .u8 (x.toNat : Int)]) (Nat.le_refl w.heap.size) (heap_alloc_new w _) rfl rfl (by unfold maxLen; decide))
  exact h
set_option maxRecDepth 100000 in
set_option maxHeartbeats 4000000 in
theorem src_spoil (g : Nat) (s : ByteArray) (w : World) (a : Option Addr) (len cap B : Nat) (hsz : s.size ≤ 1000) (hl : len ≤ 1048576) (hs : Src w g a len cap) (hb : Bytes B w a len) (hB : B ≤ g) (hg : g < w.heap.size) :
    Calls Tryd.prog 25 #[.pointer (some ⟨g, 0, none⟩), .string s] w fun e w' => ∃ u : ByteArray, e = .returned (.string u) ∧ u.size ≤ s.size + 1 ∧ Src w' g a len cap ∧ Below g w w' := by
  have HS : Hid _ := hs
  have HB : Hid _ := hb
  have HN : Hid _ := fun w hs hb => src_nx g (s.size + 1) w a len cap B (by omega) (by omega) hl hs hb hB
  clear hs hb
  go_enter Tryd.func25, Tryd.ntmps25
  go_wp2_with fail
  refine (HN.out _ HS.out HB.out).mono ?_
  rintro e w1 ⟨r, rfl, hr, hs1, hg1⟩
  have hz1 : g < w1.heap.size := by have h := hg1.size; omega
  have HL1 : Hid (Below g w w1) := (Below.refl g w).grown hg1 (by omega) (fun k hk => by simp at hk; omega)
  have HB1 : Hid _ := bytes_grown HB.out hg1 hB
  have HS1 : Hid _ := hs1
  clear hs1 hg1 HS HB HN
  go_wp2_with fail
  refine (src_n g 17 _ a len cap B (by omega) (by omega) hl HS1.out HB1.out hB).mono ?_
  rintro e w2 ⟨q, rfl, hq, hs2, hg2⟩
  have hz2 : g < w2.heap.size := by have h := hg2.size; omega
  have HL2 : Hid (Below g w w2) := HL1.out.grown hg2 (by omega) (fun k hk => by simp at hk; omega)
  have HB2 : Hid _ := bytes_grown HB1.out hg2 hB
  have HS2 : Hid _ := hs2
  clear hs2 hg2 HS1 HB1 HL1
  have hq17 : (q : Int) < 17 := by omega
  have hcv := conv1 w2 ((⟨#[32, 10, 48, 97, 45, 110, 44, 58, 93, 255, 40, 120, 126, 49, 128, 225, 59]⟩ : ByteArray)[q]'(by show q < 17; omega)) _ rfl
  have hr0 : (0 : Int) ≤ (r : Int) := by omega
  have hr1 : (r : Int) ≤ (s.size : Int) := by omega
  go_upto_region 3 with fail
  obtain ⟨x, hx⟩ : ∃ x : UInt8, (⟨#[32, 10, 48, 97, 45, 110, 44, 58, 93, 255, 40, 120, 126, 49, 128, 225, 59]⟩ : ByteArray)[q]'(by show q < 17; omega) = x := ⟨_, rfl⟩
  rw [hx] at hcv ⊢
  clear hx
  generalize hW : w2.alloc (.cells #[.int .u8 (x.toNat : Int)] 5) = w3
  have hal : Below w2.heap.size w2 w3 := by rw [← hW]; exact (Below.refl _ _).alloc (Nat.le_refl _) _
  have HL3 : Hid (Below g w w3) := HL2.out.trans (hal.mono (by omega))
  have HB3 : Hid _ := bytes_below HB2.out hal (by omega)
  have HS3 : Hid _ := src_below HS2.out hal hz2
  have hz3 : g < w3.heap.size := by have h := hal.size; omega
  clear hW hal HL2 HB2 HS2 hcv
  have hx1 : (⟨#[x]⟩ : ByteArray).size = 1 := rfl
  have e1 : (s.extract 0 r).size = r := by simp; omega
  have e2 : (s.extract r s.size).size = s.size - r := by simp
  by_cases hE : r = s.size
  · have hEb : ((r : Int) == (s.size : Int)) = true := by rw [beq_iff_eq]; omega
    clear hE
    go_wp2
    go_region
    go_wp2
    go_ret
    exact ⟨_, rfl, by rw [ByteArray.size_append, ByteArray.size_append, e1, e2, hx1]; omega, src_drew HS3.out, HL3.out.drew⟩
  · have hEb : ((r : Int) == (s.size : Int)) = false := by rw [beq_eq_false_iff_ne]; omega
    have hlt : (r : Int) < (s.size : Int) := by omega
    have e3 : (s.extract (r + 1) s.size).size = s.size - (r + 1) := by simp
    have hwr : IntKind.i64.wrap ((r : Int) + 1) = (r : Int) + 1 := by simp [IntKind.wrap, IntKind.bits, IntKind.signed]; omega
    have hr2 : (r : Int) + 1 ≤ (s.size : Int) := by omega
    have hr3 : (0 : Int) ≤ (r : Int) + 1 := by omega
    go_wp2_with fail
    refine (src_one g 3 _ a len cap B (by omega) (by omega) hl HS3.out HB3.out hB).mono ?_
    rintro e w4 ⟨r5, rfl, hr5, hs4, hg4⟩
    have hz4 : g < w4.heap.size := by have h := hg4.size; omega
    have HL4 : Hid (Below g w w4) := HL3.out.grown hg4 (by omega) (fun k hk => by simp at hk; omega)
    have HB4 : Hid _ := bytes_grown HB3.out hg4 hB
    have HS4 : Hid _ := hs4
    clear hs4 hg4 HS3 HB3 HL3 hE
    by_cases h5 : r5 = 0
    · have h5b : ((r5 : Int) == 0) = true := by rw [beq_iff_eq]; omega
      clear h5
      go_wp2
      go_region
      go_wp2
      go_ret
      exact ⟨_, rfl, by rw [ByteArray.size_append, ByteArray.size_append, e1, e2, hx1]; omega, src_drew HS4.out, HL4.out.drew⟩
    · have h5b : ((r5 : Int) == 0) = false := by rw [beq_eq_false_iff_ne]; omega
      clear h5
      go_wp2_with fail
      refine (src_one g 2 _ a len cap B (by omega) (by omega) hl HS4.out HB4.out hB).mono ?_
      rintro e w5 ⟨r6, rfl, hr6, hs5, hg5⟩
      have hz5 : g < w5.heap.size := by have h := hg5.size; omega
      have HL5 : Hid (Below g w w5) := HL4.out.grown hg5 (by omega) (fun k hk => by simp at hk; omega)
      have HS5 : Hid _ := hs5
      clear hs5 hg5 HS4 HB4 HL4
      by_cases h6 : r6 = 0
      · have h6b : ((r6 : Int) == 0) = true := by rw [beq_iff_eq]; omega
        clear h6
        go_wp2
        go_region
        go_wp2
        go_ret
        exact ⟨_, rfl, by rw [ByteArray.size_append, e1, e3]; omega, src_drew HS5.out, HL5.out.drew⟩
      · have h6b : ((r6 : Int) == 0) = false := by rw [beq_eq_false_iff_ne]; omega
        clear h6
        go_wp2
        go_region
        go_wp2
        go_ret
        exact ⟨_, rfl, by rw [ByteArray.size_append, ByteArray.size_append, e1, e3, hx1]; omega, src_drew HS5.out, HL5.out.drew⟩
end Go.Proofs.YtbafkhfkijmjcaaDoor
