import Derived.Test.YtahccighonddaaaGreatDoorRingNew
import Derived.RegionTactic
import Derived.LoopTactic
import Derived.BigRegion
import Derived.Deep.QuietTactic
import Derived.BigQuiet
import Derived.Deep.RegionWith
import Derived.Outline
namespace Go.Proofs.YtahccighonddaaaGreatDoor
open Go.RowKit
theorem strs_at {w wr : World} {a : Option Addr} {n : Nat} {l : List ByteArray} (h : Strs w a n l) (hb : Below w.heap.size w wr) {k : Nat} (hk : k < n) :
    ∃ b off V,a = some ⟨b,off,none⟩ ∧ l[k]? = some V ∧ wr.cell? ⟨b,off + k,none⟩ = some (.string V) := by
  have hkl : k < l.length := by rw [h.1]; exact hk
  obtain ⟨b,off,e,hc⟩ := (strs_below h hb).2 k hkl
  exact ⟨b,off,l[k],e,by simp [hkl],hc⟩
theorem curs_at {w wr : World} {a : Option Addr} {n : Nat} {l : List (Int × Int)} (h : Curs w a n l) (hb : Below w.heap.size w wr) {k : Nat} (hk : k < n) :
    ∃ b off G A,a = some ⟨b,off,none⟩ ∧ l[k]? = some (G,A) ∧ wr.cell? ⟨b,off + k * 2,none⟩ = some (.int .i64 G) ∧ wr.cell? ⟨b,off + k * 2 + 1,none⟩ = some (.int .i64 A) := by
  have hkl : k < l.length := by rw [h.1]; exact hk
  obtain ⟨b,off,e,hc,hd⟩ := (curs_below h hb).2 k hkl
  exact ⟨b,off,l[k].1,l[k].2,e,by simp [hkl],hc,hd⟩
set_option maxHeartbeats 1000000 in
theorem law_eqStrs (a b : Option Addr) (n ca cb : Nat) (l : List ByteArray) (w : World) (ha : Strs w a n l) (hb : Strs w b n l) (hn : n ≤ 2097152) :
    Calls Tryz.prog 69 #[.slice a n ca,.slice b n cb] w fun e w' => e = .returned (.bool true) ∧ Below w.heap.size w w' := by
  have HA : Hid _ := ha
  have HB : Hid _ := hb
  clear ha hb
  go_enter Tryz.func69,Tryz.ntmps69
  go_wp2
  go_loopw [5] (fun i wr => ∃ k : Nat,k ≤ n ∧ i = .int .i64 k ∧ Hid (Below w.heap.size w wr)) (fun i _ => n - (intOf i).toNat)
  case atStart => exact ⟨0,by omega,rfl,Below.refl _ _⟩
  case round =>
    obtain ⟨k,hk,rfl,hw⟩ := hrel
    by_cases hlt : k < n
    · obtain ⟨b1,o1,V,rfl,e1,c1⟩ := strs_at HA.out hw.out hlt
      obtain ⟨b2,o2,V',rfl,e2,c2⟩ := strs_at HB.out hw.out hlt
      obtain rfl : V = V' := Option.some.inj (e1.symm.trans e2)
      clear e1 e2
      go_wp2
      go_region
      all_goals go_wp2
      all_goals go_roundw
      all_goals first | exact ⟨k + 1,by omega,by go_num,hw.out.drew⟩ | (simp [intOf]; omega)
    · go_wp2
      go_ret
      exact ⟨rfl,hw.out⟩
theorem law_eqCur (g a : Int) (w : World) :
    Calls Tryz.prog 204 #[.agg #[.int .i64 g,.int .i64 a],.agg #[.int .i64 g,.int .i64 a]] w fun e w' => e = .returned (.bool true) ∧ Below w.heap.size w w' := by
  have e1 : (g != g) = false := by simp
  have e2 : (a != a) = false := by simp
  go_enter Tryz.func204,Tryz.ntmps204
  go_wp2
  go_ret
  exact ⟨rfl,((Below.refl _ _).alloc (Nat.le_refl _) _).alloc (by simp) _⟩
set_option maxHeartbeats 1000000 in
theorem law_eqCurs (a b : Option Addr) (n ca cb : Nat) (l : List (Int × Int)) (w : World) (ha : Curs w a n l) (hb : Curs w b n l) (hn : n ≤ 2097152) :
    Calls Tryz.prog 155 #[.slice a n ca,.slice b n cb] w fun e w' => e = .returned (.bool true) ∧ Below w.heap.size w w' := by
  have HA : Hid _ := ha
  have HB : Hid _ := hb
  clear ha hb
  go_enter Tryz.func155,Tryz.ntmps155
  go_wp2
  go_loopw [5] (fun i wr => ∃ k : Nat,k ≤ n ∧ i = .int .i64 k ∧ Hid (Below w.heap.size w wr)) (fun i _ => n - (intOf i).toNat)
  case atStart => exact ⟨0,by omega,rfl,Below.refl _ _⟩
  case round =>
    obtain ⟨k,hk,rfl,hw⟩ := hrel
    by_cases hlt : k < n
    · obtain ⟨b1,o1,G,A,rfl,e1,c1,d1⟩ := curs_at HA.out hw.out hlt
      obtain ⟨b2,o2,G',A',rfl,e2,c2,d2⟩ := curs_at HB.out hw.out hlt
      obtain ⟨rfl,rfl⟩ : G = G' ∧ A = A' := by simpa using Option.some.inj (e1.symm.trans e2)
      clear e1 e2
      go_wp2
      go_region_with (go_at_call 204; refine (law_eqCur G A _).mono ?_; rintro e w1 ⟨rfl,hb1⟩; have hw1 : Hid (Below w.heap.size w w1) := below_tr hw.out.drew hb1; clear hb1)
      all_goals go_wp2
      all_goals go_roundw
      all_goals first | exact ⟨k + 1,by omega,by go_num,hw1.out⟩ | (simp [intOf]; omega)
    · go_wp2
      go_ret
      exact ⟨rfl,hw.out⟩
set_option maxHeartbeats 1000000 in
theorem law_eqRing (cap first : Int) (ra : Option Addr) (rl rc : Nat) (ca : Option Addr) (cl cc : Nat) (ra' : Option Addr) (rc' : Nat) (ca' : Option Addr) (cc' : Nat) (recs : List ByteArray) (curs : List (Int × Int)) (w : World)
    (h1 : Strs w ra rl recs) (h2 : Strs w ra' rl recs) (h3 : Curs w ca cl curs) (h4 : Curs w ca' cl curs) (hr : rl ≤ 2097152) (hc : cl ≤ 2097152) :
    Calls Tryz.prog 99 #[ringV cap first ra rl rc ca cl cc,ringV cap first ra' rl rc' ca' cl cc'] w fun e w' => e = .returned (.bool true) ∧ Below w.heap.size w w' := by
  have e1 : (cap != cap) = false := by simp
  have e2 : (first != first) = false := by simp
  have H1 : Hid _ := h1
  have H2 : Hid _ := h2
  have H3 : Hid _ := h3
  have H4 : Hid _ := h4
  clear h1 h2 h3 h4
  have hB0 : Hid (Below w.heap.size w ((w.alloc (ringObj cap first ra rl rc ca cl cc)).alloc (ringObj cap first ra' rl rc' ca' cl cc'))) := ((Below.refl _ _).alloc (Nat.le_refl _) _).alloc (by simp) _
  go_enter Tryz.func99,Tryz.ntmps99
  go_wp2_with fail
  refine (law_eqStrs ra ra' rl rc rc' recs _ (strs_below H1.out hB0.out) (strs_below H2.out hB0.out) hr).mono ?_
  rintro e w1 ⟨rfl,hb1⟩
  have hc1 := fun o => hb1.cell (p := ⟨w.heap.size,o,none⟩) (by simp only [World.size_alloc]; omega)
  have hc2 := fun o => hb1.cell (p := ⟨w.heap.size + 1,o,none⟩) (by simp only [World.size_alloc]; omega)
  have hB1 : Hid (Below w.heap.size w w1) := below_tr hB0.out hb1
  clear hb1
  go_wp2_with fail
  refine (law_eqCurs ca ca' cl cc cc' curs _ (curs_below H3.out hB1.out) (curs_below H4.out hB1.out) hc).mono ?_
  rintro e w2 ⟨rfl,hb2⟩
  have hB2 : Hid (Below w.heap.size w w2) := below_tr hB1.out hb2
  go_wp2
  go_ret
  exact ⟨rfl,hB2.out⟩
end Go.Proofs.YtahccighonddaaaGreatDoor
