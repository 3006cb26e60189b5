/- A sealed text with one byte turned is refused; contract for lwAt. -/
import Derived.Test.YtgjckpgecmklkaaCrcInj
import Derived.Test.YtgjckpgecmklkaaUnseal
import Derived.Test.YtgjckpgecmklkaaDraws1
import Derived.OpenShut
namespace Go.Proofs.Ytgjckpgecmklkaa
open Go.RowKit

theorem four_inj {c d : Nat} (hc : c < 4294967296) (hd : d < 4294967296) (h : four c = four d) : c = d := by
  have e : ∀ x y : Nat, x < 256 → y < 256 → UInt8.ofNat x = UInt8.ofNat y → x = y := fun x y hx hy h => by
    have := congrArg UInt8.toNat h
    simpa [Nat.mod_eq_of_lt hx, Nat.mod_eq_of_lt hy] using this
  simp only [four, List.cons.injEq, and_true] at h
  have h0 := e _ _ (by omega) (by omega) h.1
  have h1 := e _ _ (by omega) (by omega) h.2.1
  have h2 := e _ _ (by omega) (by omega) h.2.2.1
  have h3 := e _ _ (by omega) (by omega) h.2.2.2
  omega
theorem seal_len (l : List UInt8) : (sealBytes l).length = l.length + 4 := by simp [sealBytes, four_len]
theorem sealed_good (l : List UInt8) : sealedB ⟨(sealBytes l).toArray⟩ = true := by
  have e : (⟨(sealBytes l).toArray⟩ : ByteArray).size - 4 = l.length := by rw [size_mk, seal_len]; omega
  unfold sealedB
  rw [e]
  simp [sealBytes]
theorem sealed_text (l : List UInt8) : (⟨(sealBytes l).toArray⟩ : ByteArray).extract 0 ((⟨(sealBytes l).toArray⟩ : ByteArray).size - 4) = ⟨l.toArray⟩ := by
  have e : (⟨(sealBytes l).toArray⟩ : ByteArray).size - 4 = l.length := by rw [size_mk, seal_len]; omega
  rw [e, Lib.extract_eq]
  simp [sealBytes]
theorem sealed_bad (l : List UInt8) (i : Nat) (b : UInt8) (hi : i < (sealBytes l).length) (hne : (sealBytes l)[i] ≠ b) : sealedB ⟨((sealBytes l).set i b).toArray⟩ = false := by
  have hlen : ((sealBytes l).set i b).length = l.length + 4 := by rw [List.length_set, seal_len]
  have e : (⟨((sealBytes l).set i b).toArray⟩ : ByteArray).size - 4 = l.length := by rw [size_mk, hlen]; omega
  rw [seal_len] at hi
  unfold sealedB
  rw [e, ByteArray.toList_mk]
  show (sealBytes (List.take l.length ((sealBytes l).set i b)) == (sealBytes l).set i b) = false
  rw [beq_eq_false_iff_ne]
  intro h
  by_cases hil : i < l.length
  · have e1 : (sealBytes l).set i b = l.set i b ++ four (crcOf 0 l) := by
      unfold sealBytes
      rw [List.set_append_left _ _ hil]
    have e2 : List.take l.length (l.set i b ++ four (crcOf 0 l)) = l.set i b := by
      have : l.length = (l.set i b).length := by simp
      rw [this]; exact List.take_left
    rw [e1, e2] at h
    have h3 : four (crcOf 0 (l.set i b)) = four (crcOf 0 l) := List.append_cancel_left h
    have h4 := crcOf_inj (four_inj (crcOf_lt _ _) (crcOf_lt _ _) h3)
    have h5 := crcReg_set l i b hil (by omega) h4
    apply hne
    simp only [sealBytes]
    rw [List.getElem_append_left hil]
    exact h5
  · have e1 : (sealBytes l).set i b = l ++ (four (crcOf 0 l)).set (i - l.length) b := by
      unfold sealBytes
      rw [List.set_append_right _ _ (by omega)]
    rw [e1, List.take_left] at h
    have h3 : four (crcOf 0 l) = (four (crcOf 0 l)).set (i - l.length) b := List.append_cancel_left h
    apply hne
    simp only [sealBytes]
    rw [List.getElem_append_right (by omega)]
    have h4 : (four (crcOf 0 l))[i - l.length]? = ((four (crcOf 0 l)).set (i - l.length) b)[i - l.length]? := congrArg (fun x : List UInt8 => x[i - l.length]?) h3
    have hj : i - l.length < (four (crcOf 0 l)).length := by rw [four_len]; omega
    rw [List.getElem?_eq_getElem hj, List.getElem?_set_self hj] at h4
    exact Option.some.inj h4

theorem lwAt_none (a : Option Addr) (len cap : Nat) (i most : Int) (w : World) (h : most ≤ 1 ∨ len = 0) :
    Calls Try.prog 14 #[.slice a len cap, .int .i64 i, .int .i64 most] w fun e w' => e = .returned (.int .i64 0) ∧ w' = w := by
  by_cases h1 : most ≤ 1
  · go_enter Try.func14, Try.ntmps14
    go_wp2
    go_ret
    exact ⟨rfl, rfl⟩
  · have h2 : ((len : Int) == 0) = true := by rw [beq_iff_eq]; omega
    clear h
    go_enter Try.func14, Try.ntmps14
    go_wp2
    go_ret
    exact ⟨rfl, rfl⟩
theorem lwAt_some (b off len cap : Nat) (i most x : Nat) (w : World) (h1 : 1 < most) (h2 : most ≤ 1048576) (hl : len ≤ 1048576) (hpos : 0 < len) (hx : x < 256) (hc : w.cell? ⟨b, off + i % len, none⟩ = some (.int .u8 x)) :
    Calls Try.prog 14 #[.slice (some ⟨b, off, none⟩) len cap, .int .i64 i, .int .i64 most] w fun e w' => e = .returned (.int .i64 ((x % most : Nat) : Int)) ∧ w' = w := by
  have h3 : ((len : Int) == 0) = false := by rw [beq_eq_false_iff_ne]; omega
  have hj : i % len < len := Nat.mod_lt _ hpos
  obtain ⟨j, ej⟩ : ∃ j, j = i % len := ⟨_, rfl⟩
  rw [← ej] at hj hc
  have h6 : (i : Int) % (len : Int) = (j : Int) := by rw [ej]; simp
  have h4 : (i : Int).tmod (len : Int) = (j : Int) := by rw [Int.tmod_eq_emod_of_nonneg (by omega)]; exact h6
  clear ej
  go_enter Try.func14, Try.ntmps14
  go_wp2
  go_ret
  exact ⟨ret_int (by simp), rfl⟩
theorem lwAt_any (a : Option Addr) (len cap B : Nat) (iI : Int) (i : Nat) (eI : iI = i) (mI : Int) (most : Nat) (eM : mI = most) (w : World) (h1 : 1 < most) (h2 : most ≤ 1048576) (hl : len ≤ 1048576) (hb : Bytes B w a len) :
    Calls Try.prog 14 #[.slice a len cap, .int .i64 iI, .int .i64 mI] w fun e w' => ∃ r : Nat, e = .returned (.int .i64 r) ∧ r < most ∧ w' = w := by
  subst eI eM
  by_cases hpos : 0 < len
  · obtain ⟨b, off, rfl, _, x, hx, hc⟩ := hb (i % len) (Nat.mod_lt _ hpos)
    refine (lwAt_some b off len cap i most x w h1 h2 hl hpos hx hc).mono ?_
    rintro e w' ⟨rfl, rfl⟩
    exact ⟨_, rfl, Nat.mod_lt _ (by omega), rfl⟩
  · refine (lwAt_none a len cap i most w (.inr (by omega))).mono ?_
    rintro e w' ⟨rfl, rfl⟩
    exact ⟨0, rfl, by omega, rfl⟩
theorem bytes_of_row {w : World} {a : Option Addr} {len cap : Nat} {zs : List Int} (h : IsRow .u8 w a len cap zs) : Bytes w.heap.size w a len := fun i hi => by
  rcases h with ⟨rfl, rfl, rfl, rfl⟩ | ⟨x, rfl, hl, hm, hz, hcell, hwz⟩
  · omega
  · obtain ⟨b, off, spot⟩ := x
    have hspot : spot = none := by simpa [Addr.add] using World.cell?_spot (hcell 0 (by omega))
    subst hspot
    have hc := hcell i (by omega)
    have hc' : w.cell? ⟨b, off + i, none⟩ = some (.int .u8 (zs.getD i 0)) := by
      by_cases e : i = 0
      · subst e; simpa [Addr.add] using hc
      · simpa [Addr.add, e] using hc
    have hmem : zs.getD i 0 ∈ zs := by
      rw [List.getD_eq_getElem?_getD, List.getElem?_eq_getElem (by omega)]
      exact List.getElem_mem _
    have hb := bounds_u8 (hwz _ hmem)
    obtain ⟨n, hn⟩ := Int.eq_ofNat_of_zero_le hb.1
    exact ⟨b, off, rfl, World.block_lt_of_cell? w ⟨b, off + i, none⟩ hc', n, by omega, by rw [hc', hn]⟩
end Go.Proofs.Ytgjckpgecmklkaa
