/- A ring at work: its cursors in order, and finding one. -/
import Derived.Test.YtblkbpgnhkjaaaaDoorRingWork2
import Derived.Deep.RegionWith
namespace Go.Proofs.YtblkbpgnhkjaaaaDoor
open Go.RowKit
variable {cap first : Int} {ra ca : Option Addr} {rl rc cl cc : Nat}

/-- The groups of the first k rise. -/
def risesTo (l : List (Int × Int)) (k : Nat) : Prop := ∀ j, j + 1 < k → ∀ (h : j + 1 < l.length), l[j].1 < l[j + 1].1
def risesB (l : List (Int × Int)) : Bool := decide (∀ j, j < l.length → ∀ (h : j + 1 < l.length), l[j].1 < l[j + 1].1)
theorem rises_yes {l : List (Int × Int)} {k : Nat} (h : risesTo l k) (hk : l.length ≤ k) : risesB l = true :=
  decide_eq_true fun j _ h1 => h j (by omega) h1
theorem rises_no {l : List (Int × Int)} {k : Nat} (h1 : k + 1 < l.length) (h : ¬ l[k].1 < l[k + 1].1) : risesB l = false :=
  decide_eq_false fun hh => h (hh k (by omega) h1)
theorem curs_two {w wr : World} {a : Option Addr} {n : Nat} {l : List (Int × Int)} (h : Curs w a n l) (hb : Below w.heap.size w wr) {k : Nat} (hk : k < n) :
    ∃ b off, a = some ⟨b, off, none⟩ ∧ ∃ h : k < l.length, wr.cell? ⟨b, off + k * 2, none⟩ = some (.int .i64 l[k].1) ∧ wr.cell? ⟨b, off + k * 2 + 1, none⟩ = some (.int .i64 l[k].2) := by
  have hkl : k < l.length := by rw [h.1]; exact hk
  obtain ⟨b, off, e, hc, hd⟩ := (curs_below h hb).2 k hkl
  exact ⟨b, off, e, hkl, hc, hd⟩

set_option maxRecDepth 100000 in
set_option maxHeartbeats 2000000 in
theorem impl_rising (a : Option Addr) (n c : Nat) (curs : List (Int × Int)) (w : World) (hc : Curs w a n curs) (hn : n ≤ 1048576) :
    Calls Tryd.prog 51 #[.slice a n c, .func (.func 52) #[] #[]] w fun e w' => e = .returned (.bool (risesB curs)) ∧ Below w.heap.size w w' := by
  have HC : Hid (Curs w a n curs) := hc
  have hlen : curs.length = n := hc.1
  have HL : Hid _ := hlen
  clear hc hlen
  go_enter Tryd.func51, Tryd.ntmps51
  go_wp2
  go_loopw [5] (fun i wr => ∃ k : Nat, 1 ≤ k ∧ (k ≤ n ∨ k = 1) ∧ i = .int .i64 k ∧ Hid (risesTo curs k) ∧ Hid (Below w.heap.size w wr)) (fun i _ => n - (intOf i).toNat)
  case atStart => exact ⟨1, by omega, by omega, rfl, fun j hj => by omega, Below.refl _ _⟩
  case round =>
    obtain ⟨k, hk1, hkn, rfl, hr, hw⟩ := hrel
    by_cases hlt : k < n
    · obtain ⟨j, rfl⟩ : ∃ j, k = j + 1 := ⟨k - 1, by omega⟩
      obtain ⟨b, off, rfl, hj, g1, a1⟩ := curs_two HC.out hw.out (k := j) (by omega)
      obtain ⟨b', off', e, hj', g2, a2⟩ := curs_two HC.out hw.out (k := j + 1) hlt
      obtain ⟨rfl, rfl⟩ : b' = b ∧ off' = off := by simp at e; omega
      clear e
      have hY : curs[j].1 < curs[j + 1].1 → Hid (risesTo curs (j + 1 + 1)) := fun h i hi h1 => by
        by_cases hij : i = j
        · subst hij; exact h
        · exact hr.out i (by omega) h1
      have hN : ¬ curs[j].1 < curs[j + 1].1 → Hid (risesB curs = false) := fun h => rises_no hj' h
      obtain ⟨G1, e1⟩ : ∃ G, curs[j].1 = G := ⟨_, rfl⟩
      obtain ⟨G2, e2⟩ : ∃ G, curs[j + 1].1 = G := ⟨_, rfl⟩
      obtain ⟨A1, f1⟩ : ∃ G, curs[j].2 = G := ⟨_, rfl⟩
      obtain ⟨A2, f2⟩ : ∃ G, curs[j + 1].2 = G := ⟨_, rfl⟩
      rw [e1, e2] at hY hN
      rw [e1] at g1
      rw [e2] at g2
      rw [f1] at a1
      rw [f2] at a2
      have hbw : b' < wr.heap.size := World.block_lt_of_cell? wr _ g1
      clear e1 e2 f1 f2 hr hj hj'
      have hw0 : Hid (Below w.heap.size w wr) := hw.out
      have hW1 : IntKind.i64.wrap (j : Int) = (j : Int) := i64_wrap_in _ (by omega) (by omega)
      have hjn : (j : Int) < (n : Int) := by omega
      go_upto_region 4 with fail
      go_cut [25] (fun t wc => t = .bool (decide (G2 ≤ G1)) ∧ Hid (Below w.heap.size w wc))
      case first =>
        go_region_with (first | (go_at_call 52; refine (impl_groupOf _ _ _).mono ?_; rintro e w1 ⟨rfl, hb1⟩; have hlt1 := Nat.lt_of_lt_of_le hbw hb1.size; have g1 := (hb1.cell (p := ⟨b', off' + j * 2, none⟩) hbw).trans g1; have a1 := (hb1.cell (p := ⟨b', off' + j * 2 + 1, none⟩) hbw).trans a1; have g2 := (hb1.cell (p := ⟨b', off' + (j + 1) * 2, none⟩) hbw).trans g2; have a2 := (hb1.cell (p := ⟨b', off' + (j + 1) * 2 + 1, none⟩) hbw).trans a2; have hbw := hlt1; have hw0 : Hid (Below w.heap.size w w1) := (by first | exact below_tr hw0.out hb1 | exact below_tr hw0.out.drew hb1); clear hb1 hlt1))
        all_goals (go_wp2_with fail; go_meet; exact ⟨rfl, hw0.out⟩)
      case rest =>
      obtain ⟨rfl, hwc⟩ := hcut
      clear hw hw0 g1 a1 g2 a2 hW1
      by_cases hG : G1 < G2
      · have hR := hY hG
        clear hY hN
        go_wp2
        exact ⟨⟨j + 1 + 1, by omega, by omega, by go_num, hR.out, hwc.out⟩, by simp [intOf]; omega⟩
      · have hR := hN (by omega)
        clear hY hN
        go_wp2
        go_ret
        exact ⟨ret_bool hR.out.symm, hwc.out⟩
    · have hR : Hid (risesB curs = true) := rises_yes hr.out (by rw [HL.out]; omega)
      go_wp2
      go_ret
      exact ⟨ret_bool hR.out.symm, hw.out⟩
end Go.Proofs.YtblkbpgnhkjaaaaDoor
