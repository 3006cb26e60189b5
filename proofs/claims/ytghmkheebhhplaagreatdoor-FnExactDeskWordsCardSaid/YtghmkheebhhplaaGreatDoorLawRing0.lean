/- The laws' own helpers on rings: that two of the same make are held equal. -/
import Derived.Test.YtghmkheebhhplaaGreatDoorRingRows
import Derived.RegionTactic
import Derived.LoopTactic
import Derived.BigRegion
import Derived.Deep.QuietTactic
import Derived.BigQuiet
import Derived.Deep.RegionWith
import Derived.Outline
namespace Go.Proofs.YtghmkheebhhplaaGreatDoor
open Go.RowKit

theorem strs_at {w wr : World} {a : Option Addr} {n : Nat} {l : List ByteArray} (h : Strs w a n l) (hb : Below w.heap.size w wr) {k : Nat} (hk : k < n) :
    ∃ b off V, a = some ⟨b, off, none⟩ ∧ l[k]? = some V ∧ wr.cell? ⟨b, off + k, none⟩ = some (.string V) := by
  have hkl : k < l.length := by rw [h.1]; exact hk
  obtain ⟨b, off, e, hc⟩ := (strs_below h hb).2 k hkl
  exact ⟨b, off, l[k], e, by simp [hkl], hc⟩
theorem curs_at {w wr : World} {a : Option Addr} {n : Nat} {l : List (Int × Int)} (h : Curs w a n l) (hb : Below w.heap.size w wr) {k : Nat} (hk : k < n) :
    ∃ b off G A, a = some ⟨b, off, none⟩ ∧ l[k]? = some (G, A) ∧ wr.cell? ⟨b, off + k * 2, none⟩ = some (.int .i64 G) ∧ wr.cell? ⟨b, off + k * 2 + 1, none⟩ = some (.int .i64 A) := by
  have hkl : k < l.length := by rw [h.1]; exact hk
  obtain ⟨b, off, e, hc, hd⟩ := (curs_below h hb).2 k hkl
  exact ⟨b, off, l[k].1, l[k].2, e, by simp [hkl], hc, hd⟩

set_option maxHeartbeats 1000000 in
theorem law_eqStrs (a b : Option Addr) (n ca cb : Nat) (l : List ByteArray) (w : World) (ha : Strs w a n l) (hb : Strs w b n l) (hn : n ≤ 2097152) :
    Calls Tryz.prog 6 #[.slice a n ca, .slice b n cb] w fun e w' => e = .returned (.bool true) ∧ Below w.heap.size w w' := by
  have HA : Hid _ := ha
  have HB : Hid _ := hb
  clear ha hb
  go_enter Tryz.func6, Tryz.ntmps6
  go_wp2
  go_loopw [5] (fun i wr => ∃ k : Nat, k ≤ n ∧ i = .int .i64 k ∧ Hid (Below w.heap.size w wr)) (fun i _ => n - (intOf i).toNat)
  case atStart => exact ⟨0, by omega, rfl, Below.refl _ _⟩
  case round =>
    obtain ⟨k, hk, rfl, hw⟩ := hrel
    by_cases hlt : k < n
    · obtain ⟨b1, o1, V, rfl, e1, c1⟩ := strs_at HA.out hw.out hlt
      obtain ⟨b2, o2, V', rfl, e2, c2⟩ := strs_at HB.out hw.out hlt
      obtain rfl : V = V' := Option.some.inj (e1.symm.trans e2)
      clear e1 e2
      go_wp2
      go_region
      all_goals go_wp2
      all_goals go_roundw
      all_goals first | exact ⟨k + 1, by omega, by go_num, hw.out.drew⟩ | (simp [intOf]; omega)
    · go_wp2
      go_ret
      exact ⟨rfl, hw.out⟩
end Go.Proofs.YtghmkheebhhplaaGreatDoor
