/- The source of draws: contracts for l01Source and its methods, as far as the laws need them: each number is in its range, and only the source's own block is written. -/
import Derived.Test.YtbbaghlmialaoaaGreatDoorTextOut
import Derived.RegionTactic
import Derived.BigRegion
import Derived.Laws.BitsAllLaws
namespace Go.Proofs.YtbbaghlmialaoaaGreatDoor
open Go.RowKit

/-- A slice of integers that came in: nil, or a row of 'cap' cells, the numbers zs. -/
def IsRow (k : IntKind) (w : World) (a : Option Addr) (len cap : Nat) (zs : List Int) : Prop :=
  (a = none ∧ len = 0 ∧ cap = 0 ∧ zs = []) ∨
  ∃ x, a = some x ∧ len ≤ cap ∧ cap ≤ maxLen ∧ zs.length = cap ∧ (∀ i, i < zs.length → w.cell? (x.add i) = some (.int k (zs.getD i 0))) ∧ ∀ n ∈ zs, (Lit.int k n).wf = true

/-- The bytes of such a slice can be read: each is a cell below block B. -/
def Bytes (B : Nat) (w : World) (a : Option Addr) (len : Nat) : Prop :=
  ∀ i, i < len → ∃ b off, a = some ⟨b, off, none⟩ ∧ b < B ∧ ∃ n : Nat, n < 256 ∧ w.cell? ⟨b, off + i, none⟩ = some (.int .u8 n)
/-- The source lies in block g: its slice, how many bytes are read, the mix, the size. -/
def Src (w : World) (g : Nat) (a : Option Addr) (len cap : Nat) : Prop :=
  ∃ (n m : Nat) (sz : Int), w.heap[g]? = some (.cells #[.slice a len cap, .int .i64 n, .int .u64 m, .int .i64 sz] 125 (0, 0)) ∧ n ≤ len ∧ m < 18446744073709551616

theorem cell_of_heap {w : World} {g : Nat} {C : Array Value} {t : TypeId} (h : w.heap[g]? = some (.cells C t (0, 0))) (o : Nat) : w.cell? ⟨g, o, none⟩ = C[o]? := by
  simp [World.cell?, h]
theorem frozen_of_heap {w : World} {g : Nat} {C : Array Value} {t : TypeId} (h : w.heap[g]? = some (.cells C t (0, 0))) (o : Nat) : w.frozen? ⟨g, o, none⟩ = false := by
  simp [World.frozen?, h]

set_option maxRecDepth 100000 in
set_option maxHeartbeats 4000000 in
theorem src_n_small (g : Nat) (most : Int) (w : World) (hm : most ≤ 1) :
    Calls Tryz.prog 52 #[.pointer (some ⟨g, 0, none⟩), .int .i64 most] w fun e w' => e = .returned (.int .i64 0) ∧ w' = w := by
  go_enter Tryz.func52, Tryz.ntmps52
  go_wp2
  go_ret
  exact ⟨rfl, rfl⟩

/-- A cell written twice. -/
theorem set_set (w : World) (g o : Nat) (v u : Value) : (w.setCell ⟨g, o, none⟩ v).setCell ⟨g, o, none⟩ u = w.setCell ⟨g, o, none⟩ u := by
  have h : ∀ (H : Array Obj) (f f' : Obj → Obj), (∀ x, f' (f x) = f' x) → (H.modify g f).modify g f' = H.modify g f' := by
    intro H f f' hff
    apply Array.ext
    · simp
    · intro i h1 h2
      simp only [Array.getElem_modify]
      split <;> simp_all
  simp only [World.setCell]
  congr 1
  apply h
  intro x
  cases x <;> simp
theorem draw_fin (x m most : Nat) (hx : x < 256) (hm : m < 18446744073709551616) (h1 : 1 < most) (h2 : most ≤ 1099511627776) :
    wrap64 ((IntKind.u64.wrap ((x : Int) + (m : Int) / 1048576)).tmod (most : Int)) = (((x + m / 1048576) % most : Nat) : Int) := by
  have e : IntKind.u64.wrap ((x : Int) + (m : Int) / 1048576) = ((x + m / 1048576 : Nat) : Int) := by rw [IntKind.wrap_u64]; omega
  rw [e, Int.tmod_eq_emod_of_nonneg (by omega)]
  have hlt : (x + m / 1048576) % most < most := Nat.mod_lt _ (by omega)
  have e2 : ((x + m / 1048576 : Nat) : Int) % (most : Int) = (((x + m / 1048576) % most : Nat) : Int) := by simp
  rw [e2]
  unfold wrap64
  omega
theorem draw_fin0 (m most : Nat) (hm : m < 18446744073709551616) (h1 : 1 < most) (h2 : most ≤ 1099511627776) :
    wrap64 ((IntKind.u64.wrap ((m : Int) / 1048576)).tmod (most : Int)) = ((m / 1048576 % most : Nat) : Int) := by
  have h := draw_fin 0 m most (by omega) hm h1 h2
  simpa using h
theorem grown_set {w : World} {w' : World} {g o : Nat} {v : Value} (h : w.grownBy w' (some g)) : w.grownBy (w'.setCell ⟨g, o, none⟩ v) (some g) :=
  ⟨h.os, h.tape, h.output, by simpa [World.setCell] using h.size, fun k hk hne => (Below.heap_setCell _ _ _ _ (fun e => hne (by simp [e]))).trans (h.block k hk hne)⟩
theorem grown_drew {w w' : World} {r : Option Nat} (h : w.grownBy w' r) : w.grownBy w'.drew r := ⟨h.os, h.tape, h.output, h.size, h.block⟩
theorem grown_refl (w : World) (g : Nat) : w.grownBy w (some g) := ⟨rfl, rfl, rfl, Nat.le_refl _, fun _ _ _ => rfl⟩
/-- One step of the mix. -/
theorem mix1 (m : Nat) (h : m < 18446744073709551616) : ∃ k : Nat, bits .xor .u64 (m : Int) (IntKind.u64.wrap ((m : Int) * 8192)) = (k : Int) ∧ Hid (k < 18446744073709551616) := by
  refine ⟨m ^^^ (m * 8192 % 18446744073709551616), ?_, Nat.xor_lt_two_pow (n := 64) h (Nat.mod_lt _ (by omega))⟩
  rw [← u64_xor_nat m _ h (Nat.mod_lt _ (by omega)), IntKind.wrap_u64]
  rfl
theorem mix2 (m : Nat) (h : m < 18446744073709551616) : ∃ k : Nat, bits .xor .u64 (m : Int) ((m : Int) / 128) = (k : Int) ∧ Hid (k < 18446744073709551616) := by
  refine ⟨m ^^^ (m / 128), ?_, Nat.xor_lt_two_pow (n := 64) h (show m / 128 < 18446744073709551616 by omega)⟩
  rw [← u64_xor_nat m _ h (by omega)]
  rfl
theorem mix3 (m : Nat) (h : m < 18446744073709551616) : ∃ k : Nat, bits .xor .u64 (m : Int) (IntKind.u64.wrap ((m : Int) * 131072)) = (k : Int) ∧ Hid (k < 18446744073709551616) := by
  refine ⟨m ^^^ (m * 131072 % 18446744073709551616), ?_, Nat.xor_lt_two_pow (n := 64) h (Nat.mod_lt _ (by omega))⟩
  rw [← u64_xor_nat m _ h (Nat.mod_lt _ (by omega)), IntKind.wrap_u64]
  rfl

set_option maxRecDepth 100000 in
set_option maxHeartbeats 4000000 in
theorem src_n_past (g : Nat) (most : Nat) (w : World) (a : Option Addr) (len cap n m : Nat) (sz : Int) (hm : 1 < most) (hm2 : most ≤ 1099511627776) (_hl : len ≤ 1048576)
    (hh : w.heap[g]? = some (.cells #[.slice a len cap, .int .i64 n, .int .u64 m, .int .i64 sz] 125 (0, 0))) (hn : n ≤ len) (hge : ¬ n < len) (hmx : m < 18446744073709551616) :
    Calls Tryz.prog 52 #[.pointer (some ⟨g, 0, none⟩), .int .i64 most] w fun e w' => ∃ r : Nat, e = .returned (.int .i64 r) ∧ r < most ∧ Src w' g a len cap ∧ w.grownBy w' (some g) := by
  have hc0 : w.cell? ⟨g, 0, none⟩ = some (.slice a len cap) := cell_of_heap hh 0
  have hc1 : w.cell? ⟨g, 1, none⟩ = some (.int .i64 n) := cell_of_heap hh 1
  have hc2 : w.cell? ⟨g, 2, none⟩ = some (.int .u64 m) := cell_of_heap hh 2
  have hf := frozen_of_heap hh
  have hss := set_set
  obtain ⟨m1, e1, h1⟩ := mix1 m hmx
  obtain ⟨m2, e2, h2⟩ := mix2 m1 h1.out
  obtain ⟨m3, e3, h3⟩ := mix3 m2 h2.out
  have HH : Hid _ := hh
  clear hmx hh
  go_enter Tryz.func52, Tryz.ntmps52
  go_wp2
  go_region
  go_wp2
  go_region
  go_wp2
  go_region
  go_wp2
  go_region
  go_wp2
  go_ret
  refine ⟨m3 / 1048576 % most, ret_int (draw_fin0 m3 most h3.out hm hm2), Nat.mod_lt _ (by omega), ⟨n, m3, sz, ?_, hn, h3.out⟩, grown_drew (grown_drew (grown_drew (grown_drew (grown_set (grown_refl _ _)))))⟩
  exact heap_setCell_same _ _ 2 _ _ _ HH.out
set_option maxRecDepth 100000 in
set_option maxHeartbeats 4000000 in
theorem src_n_read (g : Nat) (most : Nat) (w : World) (b off : Nat) (len cap n m x : Nat) (sz : Int) (hm : 1 < most) (hm2 : most ≤ 1099511627776) (hl : len ≤ 1048576)
    (hh : w.heap[g]? = some (.cells #[.slice (some ⟨b, off, none⟩) len cap, .int .i64 n, .int .u64 m, .int .i64 sz] 125 (0, 0))) (hlt : n < len) (_hbg : b ≠ g) (hx : x < 256) (hcx : w.cell? ⟨b, off + n, none⟩ = some (.int .u8 x)) (hmx : m < 18446744073709551616) :
    Calls Tryz.prog 52 #[.pointer (some ⟨g, 0, none⟩), .int .i64 most] w fun e w' => ∃ r : Nat, e = .returned (.int .i64 r) ∧ r < most ∧ Src w' g (some ⟨b, off, none⟩) len cap ∧ w.grownBy w' (some g) := by
  have hc0 : w.cell? ⟨g, 0, none⟩ = some (.slice (some ⟨b, off, none⟩) len cap) := cell_of_heap hh 0
  have hc1 : w.cell? ⟨g, 1, none⟩ = some (.int .i64 n) := cell_of_heap hh 1
  have hc2 : w.cell? ⟨g, 2, none⟩ = some (.int .u64 m) := cell_of_heap hh 2
  have hf := frozen_of_heap hh
  have hss := set_set
  obtain ⟨m1, e1, h1⟩ := mix1 m hmx
  obtain ⟨m2, e2, h2⟩ := mix2 m1 h1.out
  obtain ⟨m3, e3, h3⟩ := mix3 m2 h2.out
  have HH : Hid _ := hh
  clear hmx hh
  have hlt' : (n : Int) < (len : Int) := by omega
  go_enter Tryz.func52, Tryz.ntmps52
  go_wp2
  go_region
  go_wp2
  go_region
  go_wp2
  go_region
  go_wp2
  go_region
  go_wp2
  go_region
  go_wp2
  go_ret
  refine ⟨(x + m3 / 1048576) % most, ret_int (draw_fin x m3 most hx h3.out hm hm2), Nat.mod_lt _ (by omega), ⟨n + 1, m3, sz, ?_, by omega, h3.out⟩, grown_drew (grown_drew (grown_drew (grown_drew (grown_drew (grown_set (grown_set (grown_refl _ _)))))))⟩
  exact heap_setCell_same _ _ 2 _ _ _ (heap_setCell_same _ _ 1 _ _ _ HH.out)

/-- A number below 'most' is drawn; only the source's block is written. -/
theorem src_n (g most : Nat) (w : World) (a : Option Addr) (len cap B : Nat) (hm : 1 < most) (hm2 : most ≤ 1099511627776) (hl : len ≤ 1048576) (hs : Src w g a len cap) (hb : Bytes B w a len) (hB : B ≤ g) :
    Calls Tryz.prog 52 #[.pointer (some ⟨g, 0, none⟩), .int .i64 most] w fun e w' => ∃ r : Nat, e = .returned (.int .i64 r) ∧ r < most ∧ Src w' g a len cap ∧ w.grownBy w' (some g) := by
  obtain ⟨n, m, sz, hh, hn, hmx⟩ := hs
  by_cases hlt : n < len
  · obtain ⟨b, off, rfl, hbB, x, hx, hcx⟩ := hb n hlt
    exact src_n_read g most w b off len cap n m x sz hm hm2 hl hh hlt (by omega) hx hcx hmx
  · exact src_n_past g most w a len cap n m sz hm hm2 hl hh hn hlt hmx
theorem bytes_grown {B g : Nat} {w w' : World} {a : Option Addr} {len : Nat} (h : Bytes B w a len) (hg : w.grownBy w' (some g)) (hB : B ≤ g) : Bytes B w' a len := fun i hi => by
  obtain ⟨b, off, e, hb, n, hn, hc⟩ := h i hi
  exact ⟨b, off, e, hb, n, hn, hg.cell hc (by intro e; simp at e; omega)⟩
theorem bytes_below {B C : Nat} {w w' : World} {a : Option Addr} {len : Nat} (h : Bytes B w a len) (hb : Below C w w') (hB : B ≤ C) : Bytes B w' a len := fun i hi => by
  obtain ⟨b, off, e, hlt, n, hn, hc⟩ := h i hi
  exact ⟨b, off, e, hlt, n, hn, (hb.cell (p := ⟨b, off + i, none⟩) (by show b < C; omega)).trans hc⟩
theorem src_below {C g : Nat} {w w' : World} {a : Option Addr} {len cap : Nat} (h : Src w g a len cap) (hb : Below C w w') (hg : g < C) : Src w' g a len cap := by
  obtain ⟨n, m, sz, hh, r⟩ := h
  exact ⟨n, m, sz, (hb.block g hg).trans hh, r⟩

theorem mix0 (m x : Nat) (h : m < 18446744073709551616) (hx : x < 256) : ∃ k : Nat, bits .xor .u64 (m : Int) (x : Int) = (k : Int) ∧ ∃ j : Nat, IntKind.u64.wrap ((k : Int) * 1099511628211) = (j : Int) ∧ Hid (j < 18446744073709551616) := by
  refine ⟨m ^^^ x, u64_xor_nat m x h (by omega), (m ^^^ x) * 1099511628211 % 18446744073709551616, ?_, Nat.mod_lt _ (by omega)⟩
  rw [IntKind.wrap_u64]
  rfl

set_option maxRecDepth 100000 in
set_option maxHeartbeats 4000000 in
theorem src_make (w : World) (a : Option Addr) (len cap : Nat) (hl : len ≤ 1048576) (hb : Bytes w.heap.size w a len) :
    Calls Tryz.prog 42 #[.slice a len cap] w fun e w' => e = .returned (.pointer (some ⟨w.heap.size, 0, none⟩)) ∧ Src w' w.heap.size a len cap ∧ Below w.heap.size w w' := by
  have HB : Hid _ := hb
  clear hb
  go_enter Tryz.func42, Tryz.ntmps42
  go_wp2
  go_loopw [4] (fun i wr => ∃ (k m : Nat), k ≤ len ∧ k ≤ 64 ∧ i = .int .i64 k ∧ Hid (m < 18446744073709551616) ∧ Hid (wr.heap[w.heap.size]? = some (.cells #[.slice a len cap, .int .i64 0, .int .u64 m, .int .i64 0] 125 (0, 0))) ∧ Hid (Below w.heap.size w wr)) (fun i _ => len - (intOf i).toNat)
  case atStart => exact ⟨0, 88172645463325252, by omega, by omega, rfl, by show (88172645463325252 : Nat) < _; decide, heap_alloc_new w _, (Below.refl _ _).alloc (Nat.le_refl _) _⟩
  case round =>
    obtain ⟨k, m, hk, hk64, rfl, hm, hh, hbel⟩ := hrel
    by_cases hlt : k < len
    · by_cases h64 : k < 64
      · obtain ⟨b, off, rfl, hbB, x, hx, hcx⟩ := HB.out k hlt
        obtain ⟨m1, e1, m2, e2, h2⟩ := mix0 m x hm.out hx
        have hcx' : wr.cell? ⟨b, off + k, none⟩ = some (.int .u8 x) := (hbel.out.cell (p := ⟨b, off + k, none⟩) hbB).trans hcx
        have hc2 : wr.cell? ⟨w.heap.size, 2, none⟩ = some (.int .u64 m) := cell_of_heap hh.out 2
        have hf := frozen_of_heap hh.out
        have hlt' : (k : Int) < (len : Int) := by omega
        clear hcx
        go_wp2
        go_region
        go_wp2
        go_roundw
        case rel => exact ⟨k + 1, m2, by omega, by omega, by go_num, h2, heap_setCell_same _ _ 2 _ _ _ hh.out, (hbel.out.setCell (p := ⟨w.heap.size, 2, none⟩) (Nat.le_refl _) _).drew⟩
        case measure => simp [intOf]; omega
      · have hc3 : wr.cell? ⟨w.heap.size, 3, none⟩ = some (.int .i64 0) := cell_of_heap hh.out 3
        have hf := frozen_of_heap hh.out
        have hss := set_set
        by_cases hsz : (len : Int) / 20 ≤ 12
        · go_wp2
          go_ret
          exact ⟨rfl, ⟨0, m, _, heap_setCell_same _ _ 3 _ _ _ hh.out, Nat.zero_le _, hm.out⟩, hbel.out.setCell (p := ⟨w.heap.size, 3, none⟩) (Nat.le_refl _) _⟩
        · go_wp2
          go_ret
          exact ⟨rfl, ⟨0, m, _, heap_setCell_same _ _ 3 _ _ _ hh.out, Nat.zero_le _, hm.out⟩, hbel.out.setCell (p := ⟨w.heap.size, 3, none⟩) (Nat.le_refl _) _⟩
    · have hc3 : wr.cell? ⟨w.heap.size, 3, none⟩ = some (.int .i64 0) := cell_of_heap hh.out 3
      have hf := frozen_of_heap hh.out
      have hss := set_set
      by_cases hsz : (len : Int) / 20 ≤ 12
      · go_wp2
        go_ret
        exact ⟨rfl, ⟨0, m, _, heap_setCell_same _ _ 3 _ _ _ hh.out, Nat.zero_le _, hm.out⟩, hbel.out.setCell (p := ⟨w.heap.size, 3, none⟩) (Nat.le_refl _) _⟩
      · exfalso; omega

set_option maxHeartbeats 1000000 in
theorem src_one (g of : Nat) (w : World) (a : Option Addr) (len cap B : Nat) (hm : 1 < of) (hm2 : of ≤ 1099511627776) (hl : len ≤ 1048576) (hs : Src w g a len cap) (hb : Bytes B w a len) (hB : B ≤ g) :
    Calls Tryz.prog 96 #[.pointer (some ⟨g, 0, none⟩), .int .i64 of] w fun e w' => ∃ r : Nat, e = .returned (.bool ((r : Int) == 0)) ∧ r < of ∧ Src w' g a len cap ∧ w.grownBy w' (some g) := by
  have HS : Hid _ := hs
  have HB : Hid _ := hb
  clear hs hb
  go_enter Tryz.func96, Tryz.ntmps96
  go_wp2_with fail
  refine (src_n g of _ a len cap B hm hm2 hl HS.out HB.out hB).mono ?_
  rintro e w1 ⟨r, rfl, hr, hs1, hg1⟩
  have HS1 : Hid _ := hs1
  have HG1 : Hid _ := hg1
  clear hs1 hg1
  go_wp2
  go_ret
  exact ⟨r, rfl, hr, HS1.out, HG1.out⟩

/-- n bytes are drawn. -/
theorem below_app2 {B : Nat} {w wr w1 : World} {o : Obj} {e : TypeId} {v : Value} {n : Nat} {xs : List Value} (hbel : Below B w wr) (hsz : B ≤ wr.heap.size) (hown : wr.ownsRow B e 1 v n xs) (hgrow : (wr.alloc o).grownBy w1 v.ownBlock) : Below B w w1 :=
  (hbel.alloc hsz o).grown hgrow (by simp; omega) (fun k hk => (hown.lt k hk).1)
theorem append_byte2 {w : World} {base : Nat} {e : TypeId} {v : Value} {l : List UInt8} {b : UInt8} {x : Value} (h : w.ownsRow base e 1 v (l.length + 1) (l.map bv ++ [x])) (hx : x = bv b) : w.ownsRow base e 1 v (l ++ [b]).length ((l ++ [b]).map bv) := by
  subst hx
  simpa using h
theorem owns_grown {w w' : World} {base g : Nat} {e : TypeId} {v : Value} {n : Nat} {xs : List Value} (h : w.ownsRow base e 1 v n xs) (hg : w.grownBy w' (some g)) (hlt : g < base) : w'.ownsRow base e 1 v n xs :=
  h.kept hg (by
    by_cases hn : v.ownBlock = none
    · exact .inl hn
    · right
      intro e
      have := h.lt g e
      omega)

end Go.Proofs.YtbbaghlmialaoaaGreatDoor
