/- The law FnSeal, walked. -/
import Derived.Test.YtgjckpgecmklkaaTamper
import Derived.Laws.StructEq
import Derived.Deep.RegionWith
namespace Go.Proofs.Ytgjckpgecmklkaa
open Go.RowKit

/-- '[]byte(s)': a new row that holds the bytes. -/
theorem bytes_of (w : World) (S : List UInt8) : ∃ (w' : World) (cap : Nat), (convert 9 22 (.string ⟨S.toArray⟩)).run Try.prog w = .ok (.slice (some ⟨w.heap.size, 0, none⟩) S.length cap) w' ∧
    Hid (∀ i (h : i < S.length), w'.cell? ⟨w.heap.size, i, none⟩ = some (bv S[i])) ∧ Hid (∀ i, i < S.length → w'.frozen? ⟨w.heap.size, i, none⟩ = false) ∧ Hid (Below w.heap.size w w') ∧ w.heap.size < w'.heap.size := by
  have h := run_bytes_of_string (P := Try.prog) w 9 22 5 ⟨S.toArray⟩ Try.underlying9 Try.underlying22 Try.underlying5
  rw [size_mk] at h
  refine ⟨_, _, h, ?_, ?_, ?_, ?_⟩
  · intro i hi
    have hc := World.cell?_alloc_mark w.drew (bytesRow ⟨S.toArray⟩ (grownCap w S.length 0 5)) 5 ((bytesRow ⟨S.toArray⟩ (grownCap w S.length 0 5)).size, (bytesRow ⟨S.toArray⟩ (grownCap w S.length 0 5)).size + 1) i
    refine Eq.trans hc ?_
    unfold bytesRow
    rw [Array.getElem?_append_left (by simpa using hi)]
    simp [hi, bv]
  · intro i hi
    have hb : (w.drew.alloc (.cells (bytesRow ⟨S.toArray⟩ (grownCap w S.length 0 5)) 5 ((bytesRow ⟨S.toArray⟩ (grownCap w S.length 0 5)).size, (bytesRow ⟨S.toArray⟩ (grownCap w S.length 0 5)).size + 1))).heap[w.heap.size]? = some (.cells (bytesRow ⟨S.toArray⟩ (grownCap w S.length 0 5)) 5 ((bytesRow ⟨S.toArray⟩ (grownCap w S.length 0 5)).size, (bytesRow ⟨S.toArray⟩ (grownCap w S.length 0 5)).size + 1)) := heap_alloc_new w.drew _
    have hsz : S.length ≤ (bytesRow ⟨S.toArray⟩ (grownCap w S.length 0 5)).size := by simp [bytesRow]
    simp only [World.frozen?, hb]
    simp
    omega
  · exact ((Below.refl _ _).drew).alloc (Nat.le_refl _) _
  · show w.heap.size < (w.heap.push _).size
    simp

theorem unseal_sealed (l : List UInt8) (w : World) (hl : l.length ≤ 7996) : Calls Try.prog 15 #[.string ⟨(sealBytes l).toArray⟩] w fun e w' => e = .returned (.agg #[.string ⟨l.toArray⟩, .int .i64 0, .int .i64 0]) ∧ Below w.heap.size w w' := by
  have h := impl_unseal_good ⟨(sealBytes l).toArray⟩ w (by rw [size_mk, seal_len]; omega) (by rw [size_mk, seal_len]; omega) (sealed_good l)
  rw [sealed_text] at h
  exact h
theorem unseal_turned (l : List UInt8) (i : Nat) (b : UInt8) (w : World) (hl : l.length ≤ 7996) (hi : i < (sealBytes l).length) (hne : (sealBytes l)[i] ≠ b) :
    Calls Try.prog 15 #[.string ⟨((sealBytes l).set i b).toArray⟩] w fun e w' => e = .returned (.agg #[.string ⟨#[]⟩, .int .i64 0, .int .i64 5]) ∧ Below w.heap.size w w' :=
  impl_unseal_bad _ w (by rw [size_mk, List.length_set, seal_len]; omega) (by rw [size_mk, List.length_set, seal_len]; omega) (sealed_bad l i b hi hne)
theorem turned_ne (x : UInt8) (r : Nat) (hr : r < 255) : x ≠ UInt8.ofNat (x.toNat ^^^ (1 + r)) := by
  intro h
  have hx := x.toNat_lt
  have hlt : x.toNat ^^^ (1 + r) < 256 := Nat.xor_lt_two_pow (n := 8) (by omega) (by omega)
  have h2 := congrArg UInt8.toNat h
  rw [UInt8.toNat_ofNat', Nat.mod_eq_of_lt (show x.toNat ^^^ (1 + r) < 2 ^ 8 by omega)] at h2
  have h3 : x.toNat ^^^ 0 = x.toNat ^^^ (1 + r) := by rw [Nat.xor_zero]; exact h2
  rw [Nat.xor_comm, Nat.xor_comm x.toNat] at h3
  have := xor_cancel h3
  omega

theorem bytes_up {B C : Nat} {w : World} {a : Option Addr} {len : Nat} (h : Bytes B w a len) (hB : B ≤ C) : Bytes C w a len := fun i hi => by
  obtain ⟨b, off, e, hb, r⟩ := h i hi
  exact ⟨b, off, e, by omega, r⟩
/-- The row of S's bytes at block g, the one at place i turned to b. -/
def Turned (_w : World) (g : Nat) (S : List UInt8) (i : Nat) (b : UInt8) (w' : World) : Prop := ∀ j (h : j < S.length), w'.cell? ⟨g, j, none⟩ = some (bv ((S.set i b)[j]'(by simpa using h)))
theorem xor_u8 {x r : Nat} (hx : x < 2 ^ 8) (hr : r < 255) : x ^^^ (1 + r) < 256 := Nat.xor_lt_two_pow (n := 8) hx (by omega)
theorem turned_mk {w : World} {g : Nat} {S : List UInt8} {i y : Nat} (hc : ∀ j (h : j < S.length), w.cell? ⟨g, j, none⟩ = some (bv S[j])) (hi : i < S.length) (hy : y < 256) : Turned w g S i (UInt8.ofNat y) ((w.setCell ⟨g, i, none⟩ (.int .u8 (y : Int))).drew) := fun j hj => by
  show (w.setCell ⟨g, i, none⟩ (.int .u8 (y : Int))).cell? ⟨g, j, none⟩ = _
  by_cases e : i = j
  · subst e
    rw [World.cell?_setCell_same w ⟨g, i, none⟩ _ (hc i hi)]
    simp [bv, Nat.mod_eq_of_lt hy]
  · rw [World.cell?_setCell_other w ⟨g, i, none⟩ ⟨g, j, none⟩ _ (by intro h; exact e (congrArg Addr.off h)), hc j hj]
    simp [e]
theorem turned_conv {w0 W w' : World} {g : Nat} {S : List UInt8} {i : Nat} {b : UInt8} (h : Turned w0 g S i b W) (cap n : Nat) (hn : n = S.length) (hb : Below W.heap.size W w') (hg : g < W.heap.size) :
    (convert 22 9 (.slice (some ⟨g, 0, none⟩) n cap)).run Try.prog w' = .ok (.string ⟨(S.set i b).toArray⟩) w' := by
  have hl : n = (S.set i b).length := by simp [hn]
  rw [hl]
  refine run_convert_bytes_back w' 22 9 5 ⟨g, 0, none⟩ cap (S.set i b) Try.underlying22 Try.underlying5 Try.underlying9 fun j hj => ?_
  have e : (⟨g, 0, none⟩ : Addr).add j = ⟨g, j, none⟩ := by
    by_cases e0 : j = 0
    · subst e0; rfl
    · simp [Addr.add, e0]
  rw [e, hb.cell (p := ⟨g, j, none⟩) hg]
  exact h j (by simpa using hj)

theorem crc_cat (l u : List UInt8) (w : World) (h : l.length + u.length ≤ 8000) : Calls Try.prog 19 #[.string ((⟨l.toArray⟩ : ByteArray) ++ ⟨u.toArray⟩)] w fun e w' => e = .returned (.int .i64 (crcOf (crcOf 0 l) u : Nat)) ∧ w' = w := by
  have e : ((⟨l.toArray⟩ : ByteArray) ++ ⟨u.toArray⟩) = ⟨(l ++ u).toArray⟩ := (cat_eq l ⟨u.toArray⟩).trans (by simp)
  rw [e, crcOf_append]
  have h := impl_crc ⟨(l ++ u).toArray⟩ w (by rw [size_mk]; simpa using h)
  simpa using h
theorem both_crcMore (c : Int) (u : List UInt8) (hu : u.length ≤ 9) : ∃ V : Int, (∀ w, Calls Try.prog 17 #[.int .i64 c, .string ⟨u.toArray⟩] w fun e w' => e = .returned (.int .i64 V) ∧ w' = w) ∧
    (∀ w, Calls Try.prog 18 #[.int .i64 c, .string ⟨u.toArray⟩] w fun e w' => e = .returned (.int .i64 V) ∧ w' = w) := by
  by_cases h : 0 ≤ c ∧ c ≤ 4294967295
  · obtain ⟨n, rfl⟩ := Int.eq_ofNat_of_zero_le h.1
    exact ⟨_, fun w => impl_crcMore n ⟨u.toArray⟩ w (by omega) (by rw [size_mk]; omega), fun w => spec_crcMore n ⟨u.toArray⟩ w (by omega) (by rw [size_mk]; omega)⟩
  · exact ⟨0, fun w => impl_crcMore_no c ⟨u.toArray⟩ w (by rw [size_mk]; unfold maxLen; omega) (by omega), fun w => spec_crcMore_no c ⟨u.toArray⟩ w (by rw [size_mk]; unfold maxLen; omega) (by omega)⟩

set_option maxRecDepth 100000 in
set_option maxHeartbeats 1000000 in
theorem law_fnSeal_in (a0 : Option Addr) (len0 cap0 : Nat) (a1 : Option Addr) (len1 cap1 : Nat) (w : World) (h0 : len0 ≤ 1048576) (h1 : len1 ≤ 1048576) (hb0 : Bytes w.heap.size w a0 len0) (hb1 : Bytes w.heap.size w a1 len1) :
    Calls Try.prog 3 #[.slice a0 len0 cap0, .slice a1 len1 cap1] w fun e w' => e = .returned (.bool true) ∧ Below w.heap.size w w' := by
  have HB0 : Hid _ := hb0
  have HB1 : Hid _ := hb1
  clear hb0 hb1
  go_enter Try.func3, Try.ntmps3
  go_wp2_with fail
  refine (draw_seal w a0 len0 cap0 h0 HB0.out).mono ?_
  rintro e w1 ⟨l, rfl, hl, hl2, hL1⟩
  have HL1 : Hid _ := hL1
  clear hL1
  by_cases hs : l.length ≤ 20
  · have hsl := seal_len l
    have HSL : Hid ((sealBytes l).length = l.length + 4) := hsl
    have hne : (sealBytes l).isEmpty = false := by rw [List.isEmpty_eq_false_iff]; intro e; rw [e] at hsl; simp at hsl
    clear hsl
    go_wp2_with fail
    refine (impl_seal ⟨l.toArray⟩ _ (by rw [size_mk]; omega)).mono ?_
    rintro e w2 ⟨rfl, hb2⟩
    have HL2 : Hid (Below w.heap.size w w2) := HL1.out.trans (hb2.mono HL1.out.size)
    clear hb2
    go_wp2_with fail
    refine (spec_seal ⟨l.toArray⟩ _ (by rw [size_mk]; omega)).mono ?_
    rintro e w3 ⟨rfl, hb3⟩
    have HL3 : Hid (Below w.heap.size w w3) := HL2.out.trans (hb3.mono HL2.out.size)
    clear hb3
    obtain ⟨w4, capB, hcv, hcell, hfro, hb4, hz4⟩ := bytes_of w3 (sealBytes l)
    have hw3 := HL3.out.size
    have HL4 : Hid (Below w.heap.size w w4) := HL3.out.trans (hb4.out.mono hw3)
    have HM4 : Hid _ := bytes_below HB1.out HL4.out (Nat.le_refl _)
    obtain ⟨n, hn⟩ : ∃ n, n = (sealBytes l).length := ⟨_, rfl⟩
    have hn4 : 4 ≤ n ∧ n ≤ 24 := by have := HSL.out; omega
    rw [← hn] at hcv
    have HN : Hid (n = (sealBytes l).length) := hn
    clear hn
    go_wp2_with fail
    refine (lwAt_any a1 len1 cap1 w.heap.size _ 0 rfl _ n rfl _ (by omega) (by omega) h1 HM4.out).mono ?_
    rintro e w4' ⟨r0, rfl, hr0, rfl⟩
    have hr0n : r0 < (sealBytes l).length := by rw [← HN.out]; exact hr0
    have hcr : w4'.cell? ⟨w3.heap.size, r0, none⟩ = some (.int .u8 ((sealBytes l)[r0].toNat : Int)) := hcell.out r0 hr0n
    have hfr : w4'.frozen? ⟨w3.heap.size, r0, none⟩ = false := hfro.out r0 hr0n
    obtain ⟨x, hx⟩ : ∃ x, x = (sealBytes l)[r0] := ⟨_, rfl⟩
    have HX : Hid (x = (sealBytes l)[r0]) := hx
    rw [← hx] at hcr
    clear hx
    have hxlt := x.toNat_lt
    have hri : (r0 : Int) < (n : Int) := by omega
    go_wp2
    go_region_with (go_at_call 14; refine (lwAt_any a1 len1 cap1 w.heap.size 1 1 rfl 255 255 rfl _ (by omega) (by omega) h1 (by exact HM4.out)).mono ?_; rintro e w5 ⟨r1, rfl, hr1, rfl⟩)
    all_goals
      have hxor : bits .xor .u8 (x.toNat : Int) (1 + (r1 : Int)) = ((x.toNat ^^^ (1 + r1) : Nat) : Int) := by
        have h := u8_xor_nat x.toNat (1 + r1) hxlt (by omega)
        rw [← h]; rfl
      have HT : Hid (Turned w4' w3.heap.size (sealBytes l) r0 (UInt8.ofNat (x.toNat ^^^ (1 + r1))) ((w4'.setCell ⟨w3.heap.size, r0, none⟩ (.int .u8 ((x.toNat ^^^ (1 + r1) : Nat) : Int))).drew)) := turned_mk hcell.out hr0n (xor_u8 hxlt hr1)
      have HL5 : Hid (Below w.heap.size w ((w4'.setCell ⟨w3.heap.size, r0, none⟩ (.int .u8 ((x.toNat ^^^ (1 + r1) : Nat) : Int))).drew)) := (HL4.out.setCell (p := ⟨w3.heap.size, r0, none⟩) hw3 _).drew
      have HNE : Hid ((sealBytes l)[r0] ≠ UInt8.ofNat (x.toNat ^^^ (1 + r1))) := by
        rw [HX.out]; exact turned_ne _ r1 hr1
      generalize UInt8.ofNat (x.toNat ^^^ (1 + r1)) = b' at HT HNE
      clear hcr hfr hcv
      go_wp2_with fail
      refine (unseal_sealed l _ (by omega)).mono ?_
      rintro e w6 ⟨rfl, hb6⟩
      rw [hxor] at hb6
      have hcv2 := turned_conv HT.out capB n HN.out hb6 (by simp; omega)
      have HL6 : Hid (Below w.heap.size w w6) := HL5.out.trans (hb6.mono HL5.out.size)
      clear hb6 hxor
      go_wp2_with fail
      refine (unseal_turned l r0 b' _ (by omega) hr0n HNE.out).mono ?_
      rintro e w7 ⟨rfl, hb7⟩
      have HL7 : Hid (Below w.heap.size w w7) := HL6.out.trans (hb7.mono HL6.out.size)
      have HM7 : Hid _ := bytes_up (bytes_below HB1.out HL7.out (Nat.le_refl _)) HL7.out.size
      have hfld : ∀ w, (Instr.field 27 (.agg #[.string ⟨#[]⟩, .int .i64 0, .int .i64 5]) 2).run Try.prog w = .ok (.int .i64 5) w := fun _ => by kernel_rfl
      clear hb7 hcv2
      go_wp2_with fail
      refine (draw_crcMore w7 a1 len1 cap1 h1 HM7.out).mono ?_
      rintro e w8 ⟨c, u, rfl, hu, hc, hb8⟩
      have HL8 : Hid (Below w.heap.size w w8) := HL7.out.trans (hb8.mono HL7.out.size)
      have HC : Hid (inI64 c) := hc
      obtain ⟨V, hVi, hVs⟩ := both_crcMore c u hu
      have HVi : Hid _ := hVi
      have HVs : Hid _ := hVs
      have hVV : (V == V) = true := by simp
      clear hb8 hc hVi hVs hfld
      go_wp2_with fail
      refine (HVi.out _).mono ?_
      rintro e w9 ⟨rfl, rfl⟩
      go_wp2_with fail
      refine (HVs.out _).mono ?_
      rintro e w9 ⟨rfl, rfl⟩
      go_wp2_with fail
      refine (impl_crc ⟨l.toArray⟩ _ (by rw [size_mk]; omega)).mono ?_
      rintro e w9 ⟨rfl, rfl⟩
      go_wp2_with fail
      refine (impl_crcMore (crcOf 0 l) ⟨u.toArray⟩ _ (crcOf_lt _ _) (by rw [size_mk]; omega)).mono ?_
      rintro e w9 ⟨rfl, rfl⟩
      go_wp2_with fail
      refine (crc_cat l u _ (by omega)).mono ?_
      rintro e w9 ⟨rfl, rfl⟩
      go_wp2
      go_ret
      exact ⟨rfl, HL8.out⟩
  · have hne : (([] : List UInt8)).isEmpty = true := rfl
    have hbig : 19995 ≤ l.length := by omega
    go_wp2_with fail
    refine (impl_seal_no ⟨l.toArray⟩ _ (by rw [size_mk]; unfold maxLen; omega) (by rw [size_mk]; omega)).mono ?_
    rintro e w2 ⟨rfl, rfl⟩
    go_wp2_with fail
    refine (spec_seal_no ⟨l.toArray⟩ _ (by rw [size_mk]; unfold maxLen; omega) (by rw [size_mk]; omega)).mono ?_
    rintro e w3 ⟨rfl, rfl⟩
    have HM3 : Hid _ := bytes_up (bytes_below HB1.out HL1.out (Nat.le_refl _)) HL1.out.size
    go_wp2_with fail
    refine (draw_crcMore _ a1 len1 cap1 h1 HM3.out).mono ?_
    rintro e w8 ⟨c, u, rfl, hu, hc, hb8⟩
    have HL8 : Hid (Below w.heap.size w w8) := HL1.out.trans (hb8.mono HL1.out.size)
    clear hb8 hc
    have hsum : (8000 : Int) < (l.length : Int) + (u.length : Int) := by omega
    go_wp2
    go_ret
    exact ⟨rfl, HL8.out⟩

theorem law_fnSeal (a0 : Option Addr) (len0 cap0 : Nat) (z0 : List Int) (a1 : Option Addr) (len1 cap1 : Nat) (z1 : List Int) (w : World) (w0 : IsRow .u8 w a0 len0 cap0 z0) (w1 : IsRow .u8 w a1 len1 cap1 z1) :
    Calls Try.prog 3 #[.slice a0 len0 cap0, .slice a1 len1 cap1] w fun e w' => e = .returned (.bool true) ∧ Below w.heap.size w w' := by
  by_cases h0 : len0 ≤ 1048576
  · by_cases h1 : len1 ≤ 1048576
    · exact law_fnSeal_in a0 len0 cap0 a1 len1 cap1 w h0 h1 (bytes_of_row w0) (bytes_of_row w1)
    · have hm : len1 ≤ 9223372036854775807 := by
        rcases w1 with ⟨_, h, _, _⟩ | ⟨_, _, h2, h3, _⟩
        · omega
        · unfold maxLen at h3; omega
      have HM : Hid (len1 ≤ 9223372036854775807) := hm
      clear w0 w1 hm
      go_enter Try.func3, Try.ntmps3
      go_wp2
      go_ret
      exact ⟨rfl, Below.refl _ _⟩
  · clear w0 w1
    go_enter Try.func3, Try.ntmps3
    go_wp2
    go_ret
    exact ⟨rfl, Below.refl _ _⟩
end Go.Proofs.Ytgjckpgecmklkaa
