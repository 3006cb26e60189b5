import Derived.Test.YtahccighonddaaaGreatDoorTextOut
import Derived.Test.YtahccighonddaaaGreatDoorScanMath
import Derived.Laws.Bits64
import Derived.OpenShut
import Derived.Test.YtahccighonddaaaGreatDoorSeal
namespace Go.Proofs.YtahccighonddaaaGreatDoor
open Go.RowKit
theorem append_bytes {w : World} {base : Nat} {e : TypeId} {v : Value} {l : List UInt8} {b : UInt8} {x : Value} (h : w.ownsRow base e 1 v (l.length + 1) (l.map bv ++ [x])) (hx : x = bv b) : w.ownsRow base e 1 v (l ++ [b]).length ((l ++ [b]).map bv) := by
  subst hx
  simpa using h
theorem below_app {B : Nat} {w wr w1 : World} {o : Obj} {e : TypeId} {v : Value} {n : Nat} {xs : List Value} (hbel : Below B w wr) (hsz : B ≤ wr.heap.size) (hown : wr.ownsRow B e 1 v n xs) (hgrow : (wr.alloc o).grownBy w1 v.ownBlock) : Below B w w1 :=
  (hbel.alloc hsz o).grown hgrow (by simp; omega) (fun k hk => (hown.lt k hk).1)
theorem num_next {l : List UInt8} {U : Nat} {r : List UInt8} (h : l ++ vb (9 - l.length) U = r) (hlt : ¬ U < 128) (hl : l.length + 1 ≤ 9) :
    (l ++ [UInt8.ofNat (U % 128 + 128)]) ++ vb (9 - (l ++ [UInt8.ofNat (U % 128 + 128)]).length) (U / 128) = r := by
  have e : 9 - l.length = (9 - (l ++ [UInt8.ofNat (U % 128 + 128)]).length) + 1 := by simp; omega
  rw [e,vb_step hlt] at h
  rw [← h]
  simp
theorem room_le {k u : Nat} (h : u < room k) : u < 18446744073709551616 := by
  have : ∀ k,room k ≤ 18446744073709551616 := by
    intro k
    induction k with
    | zero => exact Nat.le_refl _
    | succ k ih => exact Nat.le_trans (Nat.div_le_self _ _) ih
  exact Nat.lt_of_lt_of_le h (this k)
theorem wrap_quo (U : Nat) (h : U < 18446744073709551616) : IntKind.u64.wrap ((U : Int) / 128) = (U : Int) / 128 := by
  rw [IntKind.wrap_u64]
  omega
theorem spec_fold (n : Int) (w : World) (h1 : -9223372036854775808 ≤ n) (h2 : n ≤ 9223372036854775807) :
    Calls Tryz.prog 183 #[.int .i64 n] w fun e w' => e = .returned (.int .u64 (fold64 n : Nat)) ∧ w' = w := by
  by_cases h : 0 ≤ n
  · have he : Hid (2 * n = ((fold64 n : Nat) : Int)) := (fold64_pos n h).symm
    go_enter Tryz.func183,Tryz.ntmps183
    go_wp2
    go_ret
    exact ⟨ret_int he.out,rfl⟩
  · have h' : n < 0 := by omega
    have he : Hid (2 * (-(n + 1)) + 1 = ((fold64 n : Nat) : Int)) := (fold64_neg n h').symm
    go_enter Tryz.func183,Tryz.ntmps183
    go_wp2
    go_ret
    exact ⟨ret_int he.out,rfl⟩
set_option maxRecDepth 100000 in
set_option maxHeartbeats 2000000 in
theorem spec_putNum (n : Int) (w : World) (h1 : -9223372036854775808 ≤ n) (h2 : n ≤ 9223372036854775807) :
    Calls Tryz.prog 127 #[.int .i64 n] w fun e w' => e = .returned (.string ⟨(numBytes n).toArray⟩) ∧ Below w.heap.size w w' := by
  obtain ⟨i0,hi,hz0,hz1,hz2⟩ := info_parts info_u8
  go_enter Tryz.func127,Tryz.ntmps127
  go_wp2_with (first | (go_at_call 183; refine (spec_fold n _ h1 h2).mono ?_; rintro e w' ⟨rfl,rfl⟩))
  go_loopw [3,4] (fun u v wr => ∃ (U : Nat) (l : List UInt8),l.length ≤ 9 ∧ u = .int .u64 U ∧ Hid (U < room l.length) ∧ Hid (l ++ vb (9 - l.length) U = numBytes n) ∧ wr.ownsRow w'.heap.size 5 1 v l.length (l.map bv) ∧ Below w'.heap.size w' wr) (fun u _ _ => (intOf u).toNat)
  case atStart => exact ⟨fold64 n,[],by simp,rfl,fold64_lt n h1 h2,rfl,World.ownsRow_made _ _ _ (Nat.le_refl _) (by decide) rfl,(Below.refl _ _).alloc (Nat.le_refl _) _⟩
  case round =>
    obtain ⟨U,l,hl,rfl,hroom,hsp,hown,hbel⟩ := hrel
    have hsz := hbel.size
    clear h1 h2
    by_cases hlt : U < 128
    · go_wp2_with (first
        | (at_builtin; refine wpList_append_own _ rfl _ _ 213 rfl w'.heap.size 5 i0 (.int .u8 0) 1 1 Tryz.underlying213 hi hz0 hz1 hz2 rfl (by decide) _ _ _ rfl (hown.alloc _) ⟨wr.heap.size,0,none⟩ 1 1 [.int .u8 (U : Int)] rfl rfl ?c1 ?c2 ?c3 ?c4 ?c5 ?_))
      case c1 => exact cell_one_new _ _ _
      case c2 => intro u hu; simp at hu; subst hu; rfl
      case c3 => unfold maxLen; omega
      case c4 => omega
      case c5 => simp; omega
      intro v' w1 hown' hgrow _
      have hL := append_bytes (b := UInt8.ofNat U) hown' (by simp [bv]; omega)
      have hB := below_app hbel hsz hown hgrow
      have hF : Hid (l ++ [UInt8.ofNat U] = numBytes n) := by
        have h := hsp.out
        rw [vb_end hlt] at h
        exact h
      clear hown' hgrow hown
      have hcv := conv_own (P := Tryz.prog) (dst := 9) Tryz.underlying213 Tryz.underlying5 Tryz.underlying9 hL
      go_wp2
      go_ret
      exact ⟨ret_str hF.out,hB⟩
    · go_wp2_with (first
        | (at_builtin; refine wpList_append_own _ rfl _ _ 213 rfl w'.heap.size 5 i0 (.int .u8 0) 1 1 Tryz.underlying213 hi hz0 hz1 hz2 rfl (by decide) _ _ _ rfl (hown.alloc _) ⟨wr.heap.size,0,none⟩ 1 1 [.int .u8 ((U : Int) % 128 + 128)] rfl rfl ?c1 ?c2 ?c3 ?c4 ?c5 ?_))
      case c1 => exact cell_one_new _ _ _
      case c2 => intro u hu; simp at hu; subst hu; rfl
      case c3 => unfold maxLen; omega
      case c4 => omega
      case c5 => simp; omega
      intro v' w1 hown' hgrow _
      have hL := append_bytes (b := UInt8.ofNat (U % 128 + 128)) hown' (by simp [bv]; omega)
      have hB := below_app hbel hsz hown hgrow
      clear hown' hgrow hown
      have hst := room_step hroom.out hlt hl
      have hle : (l ++ [UInt8.ofNat (U % 128 + 128)]).length ≤ 9 := by simp; omega
      have hF : Hid ((l ++ [UInt8.ofNat (U % 128 + 128)]) ++ vb (9 - (l ++ [UInt8.ofNat (U % 128 + 128)]).length) (U / 128) = numBytes n) := num_next hsp.out hlt hst.1
      have hR : Hid (U / 128 < room (l ++ [UInt8.ofNat (U % 128 + 128)]).length) := by
        have e : (l ++ [UInt8.ofNat (U % 128 + 128)]).length = l.length + 1 := by simp
        rw [e]; exact hst.2
      clear hst
      have hwr := wrap_quo U (room_le hroom.out)
      go_wp2
      go_roundw
      case rel => exact ⟨U / 128,l ++ [UInt8.ofNat (U % 128 + 128)],hle,val_int (by omega),hR,hF,hL,hB⟩
      case measure => simp [intOf]; omega
end Go.Proofs.YtahccighonddaaaGreatDoor
namespace Go.Proofs.YtahccighonddaaaGreatDoor
open Go.RowKit
def textBytes (l : List UInt8) : List UInt8 := numBytes l.length ++ l
theorem num_len (n : Int) : (numBytes n).length ≤ 10 := by
  have := vb_len 9 (fold64 n)
  unfold numBytes
  omega
set_option maxHeartbeats 1000000 in
theorem spec_putText (s : ByteArray) (w : World) (hs : s.size ≤ 8000) :
    Calls Tryz.prog 128 #[.string s] w fun e w' => e = .returned (.string ⟨(textBytes s.data.toList).toArray⟩) ∧ Below w.heap.size w w' := by
  have hn := num_len (s.size : Int)
  go_enter Tryz.func128,Tryz.ntmps128
  go_wp2_with fail
  refine (spec_putNum (s.size : Int) _ (by omega) (by omega)).mono ?_
  rintro e w1 ⟨rfl,hb1⟩
  go_wp2
  go_ret
  exact ⟨ret_string ((cat_eq _ s).trans (by simp [textBytes])),hb1⟩
end Go.Proofs.YtahccighonddaaaGreatDoor
