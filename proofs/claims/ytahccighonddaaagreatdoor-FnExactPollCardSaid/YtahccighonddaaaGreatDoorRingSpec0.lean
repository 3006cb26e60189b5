import Derived.Test.YtahccighonddaaaGreatDoorRecSpec
import Derived.Test.YtahccighonddaaaGreatDoorRingNew
namespace Go.Proofs.YtahccighonddaaaGreatDoor
open Go.RowKit
theorem spec_cap (n : Int) (w : World) : Calls Tryz.prog 157 #[.int .i64 n] w fun e w' => e = .returned (.bool (capB n)) ∧ w' = w := by
  by_cases h1 : n = 4
  · subst h1
    go_enter Tryz.func157,Tryz.ntmps157
    go_wp2
    go_ret
    exact ⟨rfl,rfl⟩
  by_cases h2 : n = 8
  · subst h2
    go_enter Tryz.func157,Tryz.ntmps157
    go_wp2
    go_ret
    exact ⟨rfl,rfl⟩
  have e1 : (n == 4) = false := by rw [beq_eq_false_iff_ne]; exact h1
  have e2 : (n == 8) = false := by rw [beq_eq_false_iff_ne]; exact h2
  clear h1 h2
  go_enter Tryz.func157,Tryz.ntmps157
  go_wp2
  go_ret
  exact ⟨ret_bool (by simp [capB,e1,e2]),rfl⟩
theorem spec_time (n : Int) (w : World) : Calls Tryz.prog 123 #[.int .i64 n] w fun e w' => e = .returned (.bool (decide (0 ≤ n ∧ n ≤ 1000000))) ∧ w' = w := by
  go_enter Tryz.func123,Tryz.ntmps123
  go_wp2_with fail
  refine (spec_is n 0 1000000 _).mono ?_
  rintro e w1 ⟨rfl,rfl⟩
  go_wp2
  go_ret
  exact ⟨ret_bool (by simp),rfl⟩
theorem spec_end (cap first : Int) (ra : Option Addr) (rl rc : Nat) (ca : Option Addr) (cl cc : Nat) (w : World) (h : 0 ≤ first ∧ first ≤ 1000000) (hl : rl ≤ 1048576) :
    Calls Tryz.prog 35 #[ringV cap first ra rl rc ca cl cc] w fun e w' => e = .returned (.int .i64 (first + (rl : Int))) ∧ Below w.heap.size w w' := by
  go_enter Tryz.func35,Tryz.ntmps35
  go_wp2
  go_ret
  exact ⟨rfl,(Below.refl _ _).alloc (Nat.le_refl _) _⟩
theorem spec_min (a b : Int) (w : World) : Calls Tryz.prog 205 #[.int .i64 a,.int .i64 b] w fun e w' => e = .returned (.int .i64 (min a b)) ∧ w' = w := by
  by_cases h : a < b
  · go_enter Tryz.func205,Tryz.ntmps205
    go_wp2
    go_ret
    exact ⟨ret_int (by omega),rfl⟩
  · go_enter Tryz.func205,Tryz.ntmps205
    go_wp2
    go_ret
    exact ⟨ret_int (by omega),rfl⟩
set_option maxHeartbeats 1000000 in
theorem spec_least_none (cap first : Int) (ra : Option Addr) (rl rc : Nat) (ca : Option Addr) (cc : Nat) (w : World) :
    Calls Tryz.prog 158 #[ringV cap first ra rl rc ca 0 cc] w fun e w' => e = .returned (.int .i64 first) ∧ Below w.heap.size w w' := by
  go_enter Tryz.func158,Tryz.ntmps158
  go_wp2
  go_ret
  exact ⟨rfl,(Below.refl _ _).alloc (Nat.le_refl _) _⟩
set_option maxHeartbeats 2000000 in
theorem spec_least_some (cap first : Int) (ra : Option Addr) (rl rc : Nat) (ca : Option Addr) (cl cc : Nat) (c : Int × Int) (r : List (Int × Int)) (w : World) (hc : Curs w ca cl (c :: r)) (hcl : cl ≤ 1048576) :
    Calls Tryz.prog 158 #[ringV cap first ra rl rc ca cl cc] w fun e w' => e = .returned (.int .i64 (curLeast first (c :: r))) ∧ Below w.heap.size w w' := by
  have hlen : r.length + 1 = cl := hc.1
  obtain ⟨b,off,rfl,h00,h01⟩ := hc.2 0 (by simp)
  have hb : b < w.heap.size := World.block_lt_of_cell? w ⟨b,off + 0 * 2,none⟩ h00
  have HC : Hid _ := hc
  have hpos : (0 : Int) < (cl : Int) := by omega
  have hz : ((cl : Int) == 0) = false := by rw [beq_eq_false_iff_ne]; omega
  have h01' : w.cell? ⟨b,off + 1,none⟩ = some (.int .i64 c.2) := by simpa using h01
  have hb' : (w.alloc (ringObj cap first ra rl rc (some ⟨b,off,none⟩) cl cc)).cell? ⟨b,off + 1,none⟩ = some (.int .i64 c.2) := by rw [World.cell?_alloc_lt _ _ _ hb]; exact h01'
  clear hc h00 h01
  go_enter Tryz.func158,Tryz.ntmps158
  go_wp2
  go_loop [3,4] (fun n i => ∃ (k : Nat) (N : Int),k ≤ cl ∧ i = .int .i64 k ∧ n = .int .i64 N ∧ Hid (N = ((c :: r).take k).foldl (fun n x => min n x.2) c.2)) (fun _ i => cl - (intOf i).toNat)
  case atStart => exact ⟨0,c.2,by omega,rfl,rfl,rfl⟩
  case round =>
    obtain ⟨k,N,hk,rfl,rfl,hN⟩ := hrel
    by_cases hlt : k < cl
    · have hki : k < (c :: r).length := by simp; omega
      obtain ⟨b',off',e,_,hk1⟩ := HC.out.2 k hki
      obtain ⟨rfl,rfl⟩ : b' = b ∧ off' = off := by simp at e; omega
      have hkc : (w.alloc (ringObj cap first ra rl rc (some ⟨b',off',none⟩) cl cc)).cell? ⟨b',off' + k * 2 + 1,none⟩ = some (.int .i64 (c :: r)[k].2) := by rw [World.cell?_alloc_lt _ _ _ hb]; exact hk1
      obtain ⟨V,hV⟩ : ∃ V,(c :: r)[k].2 = V := ⟨_,rfl⟩
      rw [hV] at hkc
      have hNx : Hid (min N V = ((c :: r).take (k + 1)).foldl (fun n x => min n x.2) c.2) := by
        show _ = _
        rw [List.take_succ_eq_append_getElem hki,List.foldl_append,← hN.out]
        simp [hV]
      clear hV e hk1
      go_wp2_with (first | (go_at_call 205; refine (spec_min _ _ _).mono ?_; rintro e w' ⟨rfl,rfl⟩))
      go_round
      case rel => exact ⟨k + 1,min N V,by omega,by go_num,rfl,hNx⟩
      case measure => simp [intOf]; omega
    · have hE : Hid (N = curLeast first (c :: r)) := by
        show _ = _
        rw [hN.out,List.take_of_length_le (by simp; omega)]
        rfl
      go_wp2
      go_ret
      exact ⟨ret_int hE.out,(Below.refl _ _).alloc (Nat.le_refl _) _⟩
theorem spec_least (cap first : Int) (ra : Option Addr) (rl rc : Nat) (ca : Option Addr) (cl cc : Nat) (curs : List (Int × Int)) (w : World) (hc : Curs w ca cl curs) (hcl : cl ≤ 1048576) :
    Calls Tryz.prog 158 #[ringV cap first ra rl rc ca cl cc] w fun e w' => e = .returned (.int .i64 (curLeast first curs)) ∧ Below w.heap.size w w' := by
  cases curs with
  | nil =>
    obtain rfl : 0 = cl := hc.1
    exact spec_least_none cap first ra rl rc ca cc w
  | cons c r => exact spec_least_some cap first ra rl rc ca cl cc c r w hc hcl
end Go.Proofs.YtahccighonddaaaGreatDoor
