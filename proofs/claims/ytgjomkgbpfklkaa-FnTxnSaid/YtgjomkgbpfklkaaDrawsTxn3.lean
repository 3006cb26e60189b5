/- Contracts for the draws of TxnEnd and TxnTouch. -/
import Derived.Test.YtgjomkgbpfklkaaDrawsTxn2
namespace Go.Proofs.Ytgjomkgbpfklkaa
open Go.RowKit

theorem some_ne {i j : Nat} (h : i ≠ j) : some i ≠ some j := fun e' => h (Option.some.inj e')
/-- Two rows of one's own from base on. -/
structure TW (wr : World) (base : Nat) (a : Option Addr) (n q : Nat) (b : Option Addr) (m r : Nat) (rs ls : List Int) : Prop where
  own1 : wr.ownsRow base 2 1 (.slice a n q) n (numCells rs)
  own2 : wr.ownsRow base 2 1 (.slice b m r) m (numCells ls)
variable {a : Option Addr} {n q : Nat} {b : Option Addr} {m r : Nat} {rs ls : List Int}
theorem TW.fit {wr : World} {base : Nat} (h : TW wr base a n q b m r rs ls) (hn : n ≤ 1048576) (hm : m ≤ 1048576) : TFit wr a n q b m r rs ls := by
  obtain ⟨a1, q1, e1, h1⟩ := own_numIn h.own1
  obtain ⟨a2, q2, e2, h2⟩ := own_numIn h.own2
  simp only [Value.slice.injEq] at e1 e2
  obtain ⟨rfl, _, rfl⟩ := e1
  obtain ⟨rfl, _, rfl⟩ := e2
  exact ⟨h1, h2, hn, hm, own_ncap h.own1, own_ncap h.own2⟩
theorem TW.under {wr w1 : World} {base : Nat} (h : TW wr base a n q b m r rs ls) (hb : Below wr.heap.size wr w1) : TW w1 base a n q b m r rs ls :=
  ⟨h.own1.kept (tbelow_grown hb) (by cases (Value.slice a n q).ownBlock <;> simp), h.own2.kept (tbelow_grown hb) (by cases (Value.slice b m r).ownBlock <;> simp)⟩
theorem TW.draw {wr w1 : World} {base g : Nat} (h : TW wr base a n q b m r rs ls) (hg : wr.grownBy w1 (some g)) (hlt : g < base) : TW w1 base a n q b m r rs ls :=
  ⟨owns_grown h.own1 hg hlt, owns_grown h.own2 hg hlt⟩
theorem TW.set6 {wr : World} {base k : Nat} (h : TW wr base a n q b m r rs ls) (hk : k < base) (v0 v1 v2 v3 v4 v5 : Value) : TW (tset6 wr k v0 v1 v2 v3 v4 v5) base a n q b m r rs ls :=
  ⟨own_set6 h.own1 k hk _ _ _ _ _ _, own_set6 h.own2 k hk _ _ _ _ _ _⟩
/-- What is drawn for a law: a transaction that can be read, and a number. -/
def TDraw (w w' : World) (x : Ending) : Prop := ∃ p e s u a n q b m r rs ls st, x = .returned (.tuple #[txnV p e s u a n q b m r, .int .i64 st]) ∧ TFit w' a n q b m r rs ls ∧ n ≤ 100 ∧ m ≤ 100 ∧ (-10 ≤ st ∧ st ≤ 10) ∧ Below w.heap.size w w'
set_option maxRecDepth 100000 in
set_option maxHeartbeats 2000000 in
theorem draw_txnEnd (w : World) (aa : Option Addr) (len cap : Nat) (hl : len ≤ 1048576) (hb : Bytes w.heap.size w aa len) :
    Calls Try.prog 7 #[.slice aa len cap] w fun x w' => TDraw w w' x := by
  have hal : Below w.heap.size w (w.alloc (txnObj 0 0 0 0 none 0 0 none 0 0)) := tbelow_new _ _
  have hzz : (w.alloc (txnObj 0 0 0 0 none 0 0 none 0 0)).heap.size = w.heap.size + 1 := World.size_alloc _ _
  have HB : Hid (Bytes (w.alloc (txnObj 0 0 0 0 none 0 0 none 0 0)).heap.size (w.alloc (txnObj 0 0 0 0 none 0 0 none 0 0)) aa len) := by
    have h := bytes_below hb hal (Nat.le_refl _)
    intro i hi
    obtain ⟨b, off, e', hlt, rest⟩ := h i hi
    exact ⟨b, off, e', by omega, rest⟩
  have HY : Hid (Bytes w.heap.size (w.alloc (txnObj 0 0 0 0 none 0 0 none 0 0)) aa len) := bytes_below hb hal (Nat.le_refl _)
  have HL : Hid (Below w.heap.size w (w.alloc (txnObj 0 0 0 0 none 0 0 none 0 0))) := hal
  have HR : Hid ((w.alloc (txnObj 0 0 0 0 none 0 0 none 0 0)).heap[w.heap.size]? = some (txnObj 0 0 0 0 none 0 0 none 0 0)) := heap_alloc_new w _
  have HZ : Hid ((w.alloc (txnObj 0 0 0 0 none 0 0 none 0 0)).heap.size = w.heap.size + 1) := hzz
  clear hb hal hzz
  go_enter Try.func7, Try.ntmps7
  go_wp2_with fail
  refine (src_make _ aa len cap hl HB.out).mono ?_
  rintro x w1 ⟨rfl, hs1, hb1⟩
  have HR1 : Hid (w1.heap[w.heap.size]? = some (txnObj 0 0 0 0 none 0 0 none 0 0)) := tblk HR.out hb1
  have HL1 : Hid (Below w.heap.size w w1) := tbelow_tr HL.out hb1
  have HY1 : Hid (Bytes w.heap.size w1 aa len) := bytes_below HY.out hb1 (by rw [HZ.out]; omega)
  rw [HZ.out] at hs1 hb1
  have HS1 : Hid (Src w1 (w.heap.size + 1) aa len cap) := hs1
  have hg1 : w.heap.size + 1 < w1.heap.size := by
    obtain ⟨_, _, _, hh, _⟩ := hs1
    exact tblk_lt hh
  clear hs1 hb1 HB HY HL HR HZ
  go_wp2_with fail
  refine (src_txn (w.heap.size + 1) _ aa len cap w.heap.size hl HS1.out HY1.out (by omega) hg1).mono ?_
  rintro x w2 ⟨p, e, s, u, a, n, q, b, m, r, rs, ls, rfl, ho2, ho2', hn, hm, hs2, hb2⟩
  have HW2 : Hid (TW w2 (w.heap.size + 1 + 1) a n q b m r rs ls) := ⟨ho2.mono (by omega), ho2'.mono (by omega)⟩
  have HR2 : Hid (w2.heap[w.heap.size]? = some (txnObj 0 0 0 0 none 0 0 none 0 0)) := (hb2.block _ (by omega)).trans HR1.out
  have HL2 : Hid (Below w.heap.size w w2) := HL1.out.trans (hb2.mono (by omega))
  have HY2 : Hid (Bytes w.heap.size w2 aa len) := bytes_below HY1.out hb2 (by omega)
  have HS2 : Hid (Src w2 (w.heap.size + 1) aa len cap) := hs2
  have hg2 : w.heap.size + 1 < w2.heap.size := Nat.lt_of_lt_of_le hg1 hb2.size
  have hne2 : w.heap.size ≠ w2.heap.size := by omega
  clear ho2 ho2' hs2 hb2 HS1 HR1 HL1 HY1
  have hn3 : Below w2.heap.size w2 (w2.alloc (txnObj p e s u a n q b m r)) := tbelow_new _ _
  have HX3 : Hid ((w2.alloc (txnObj p e s u a n q b m r)).drew.heap[w2.heap.size]? = some (txnObj p e s u a n q b m r)) := heap_alloc_new w2 (txnObj p e s u a n q b m r)
  have HW3 : Hid (TW (w2.alloc (txnObj p e s u a n q b m r)).drew (w.heap.size + 1 + 1) a n q b m r rs ls) := HW2.out.under hn3.drew
  have HR3 : Hid ((w2.alloc (txnObj p e s u a n q b m r)).drew.heap[w.heap.size]? = some (txnObj 0 0 0 0 none 0 0 none 0 0)) := tblk HR2.out hn3.drew
  have HL3 : Hid (Below w.heap.size w (w2.alloc (txnObj p e s u a n q b m r)).drew) := tbelow_tr HL2.out hn3.drew
  have HY3 : Hid (Bytes w.heap.size (w2.alloc (txnObj p e s u a n q b m r)).drew aa len) := bytes_below HY2.out hn3.drew (by omega)
  have HS3 : Hid (Src (w2.alloc (txnObj p e s u a n q b m r)).drew (w.heap.size + 1) aa len cap) := src_below HS2.out hn3.drew hg2
  have hz3 : w2.heap.size < (w2.alloc (txnObj p e s u a n q b m r)).drew.heap.size := tblk_lt HX3.out
  clear hn3
  go_wp2
  first | (go_region_with (go_at_call 24; refine (src_n (w.heap.size + 1) 4 _ aa len cap w.heap.size (by omega) (by omega) hl HS3.out HY3.out (by omega)).mono ?_; rintro x w4 ⟨r4, rfl, hr4, hs4, hg4⟩; have hX4 : w4.heap[w2.heap.size]? = some (txnObj p e s u a n q b m r) := (hg4.block _ hz3 (some_ne (by omega))).trans HX3.out; have hc4 := fun o => tcell hX4 o; have hR4 : w4.heap[w.heap.size]? = some (txnObj 0 0 0 0 none 0 0 none 0 0) := (hg4.block _ (tblk_lt HR3.out) (some_ne (by omega))).trans HR3.out; have hd4 := fun o => tcell hR4 o; have hf4 := fun o => tunfrozen hR4 o; have HW4 : Hid (TW w4 (w.heap.size + 1 + 1) a n q b m r rs ls) := HW3.out.draw hg4 (by omega); have HL4 : Hid (Below w.heap.size w w4) := HL3.out.grown hg4 (by have := HL3.out.size; omega) (fun k e' => by have := Option.some.inj e'; omega); have hW4 : IntKind.i64.wrap (1 + (r4 : Int)) = 1 + (r4 : Int) := twrap_in _ (by omega) (by omega); clear hs4 hg4 hX4 hR4)) | fail
  all_goals
    go_wp2
    refine bodyPost_ret (v := .tuple #[txnV p e s u a n q b m r, .int .i64 (1 + (r4 : Int))]) (by simp [results, Try.results7, go_sem, hd4]) rfl ⟨p, e, s, u, a, n, q, b, m, r, rs, ls, 1 + (r4 : Int), rfl, ?_, hn, hm, by omega, ?_⟩
    · exact (HW4.out.set6 (k := w.heap.size) (by omega) _ _ _ _ _ _).fit (by omega) (by omega)
    · exact below_set6 HL4.out w.heap.size (Nat.le_refl _) _ _ _ _ _ _
set_option maxRecDepth 100000 in
set_option maxHeartbeats 2000000 in
theorem draw_txnTouch (w : World) (aa : Option Addr) (len cap : Nat) (hl : len ≤ 1048576) (hb : Bytes w.heap.size w aa len) :
    Calls Try.prog 9 #[.slice aa len cap] w fun x w' => TDraw w w' x := by
  have hal : Below w.heap.size w (w.alloc (txnObj 0 0 0 0 none 0 0 none 0 0)) := tbelow_new _ _
  have hzz : (w.alloc (txnObj 0 0 0 0 none 0 0 none 0 0)).heap.size = w.heap.size + 1 := World.size_alloc _ _
  have HB : Hid (Bytes (w.alloc (txnObj 0 0 0 0 none 0 0 none 0 0)).heap.size (w.alloc (txnObj 0 0 0 0 none 0 0 none 0 0)) aa len) := by
    have h := bytes_below hb hal (Nat.le_refl _)
    intro i hi
    obtain ⟨b, off, e', hlt, rest⟩ := h i hi
    exact ⟨b, off, e', by omega, rest⟩
  have HY : Hid (Bytes w.heap.size (w.alloc (txnObj 0 0 0 0 none 0 0 none 0 0)) aa len) := bytes_below hb hal (Nat.le_refl _)
  have HL : Hid (Below w.heap.size w (w.alloc (txnObj 0 0 0 0 none 0 0 none 0 0))) := hal
  have HR : Hid ((w.alloc (txnObj 0 0 0 0 none 0 0 none 0 0)).heap[w.heap.size]? = some (txnObj 0 0 0 0 none 0 0 none 0 0)) := heap_alloc_new w _
  have HZ : Hid ((w.alloc (txnObj 0 0 0 0 none 0 0 none 0 0)).heap.size = w.heap.size + 1) := hzz
  clear hb hal hzz
  go_enter Try.func9, Try.ntmps9
  go_wp2_with fail
  refine (src_make _ aa len cap hl HB.out).mono ?_
  rintro x w1 ⟨rfl, hs1, hb1⟩
  have HR1 : Hid (w1.heap[w.heap.size]? = some (txnObj 0 0 0 0 none 0 0 none 0 0)) := tblk HR.out hb1
  have HL1 : Hid (Below w.heap.size w w1) := tbelow_tr HL.out hb1
  have HY1 : Hid (Bytes w.heap.size w1 aa len) := bytes_below HY.out hb1 (by rw [HZ.out]; omega)
  rw [HZ.out] at hs1 hb1
  have HS1 : Hid (Src w1 (w.heap.size + 1) aa len cap) := hs1
  have hg1 : w.heap.size + 1 < w1.heap.size := by
    obtain ⟨_, _, _, hh, _⟩ := hs1
    exact tblk_lt hh
  clear hs1 hb1 HB HY HL HR HZ
  go_wp2_with fail
  refine (src_txn (w.heap.size + 1) _ aa len cap w.heap.size hl HS1.out HY1.out (by omega) hg1).mono ?_
  rintro x w2 ⟨p, e, s, u, a, n, q, b, m, r, rs, ls, rfl, ho2, ho2', hn, hm, hs2, hb2⟩
  have HW2 : Hid (TW w2 (w.heap.size + 1 + 1) a n q b m r rs ls) := ⟨ho2.mono (by omega), ho2'.mono (by omega)⟩
  have HR2 : Hid (w2.heap[w.heap.size]? = some (txnObj 0 0 0 0 none 0 0 none 0 0)) := (hb2.block _ (by omega)).trans HR1.out
  have HL2 : Hid (Below w.heap.size w w2) := HL1.out.trans (hb2.mono (by omega))
  have HY2 : Hid (Bytes w.heap.size w2 aa len) := bytes_below HY1.out hb2 (by omega)
  have HS2 : Hid (Src w2 (w.heap.size + 1) aa len cap) := hs2
  have hg2 : w.heap.size + 1 < w2.heap.size := Nat.lt_of_lt_of_le hg1 hb2.size
  have hne2 : w.heap.size ≠ w2.heap.size := by omega
  clear ho2 ho2' hs2 hb2 HS1 HR1 HL1 HY1
  have hn3 : Below w2.heap.size w2 (w2.alloc (txnObj p e s u a n q b m r)) := tbelow_new _ _
  have HX3 : Hid ((w2.alloc (txnObj p e s u a n q b m r)).drew.heap[w2.heap.size]? = some (txnObj p e s u a n q b m r)) := heap_alloc_new w2 (txnObj p e s u a n q b m r)
  have HW3 : Hid (TW (w2.alloc (txnObj p e s u a n q b m r)).drew (w.heap.size + 1 + 1) a n q b m r rs ls) := HW2.out.under hn3.drew
  have HR3 : Hid ((w2.alloc (txnObj p e s u a n q b m r)).drew.heap[w.heap.size]? = some (txnObj 0 0 0 0 none 0 0 none 0 0)) := tblk HR2.out hn3.drew
  have HL3 : Hid (Below w.heap.size w (w2.alloc (txnObj p e s u a n q b m r)).drew) := tbelow_tr HL2.out hn3.drew
  have HY3 : Hid (Bytes w.heap.size (w2.alloc (txnObj p e s u a n q b m r)).drew aa len) := bytes_below HY2.out hn3.drew (by omega)
  have HS3 : Hid (Src (w2.alloc (txnObj p e s u a n q b m r)).drew (w.heap.size + 1) aa len cap) := src_below HS2.out hn3.drew hg2
  have hz3 : w2.heap.size < (w2.alloc (txnObj p e s u a n q b m r)).drew.heap.size := tblk_lt HX3.out
  clear hn3
  go_wp2
  first | (go_region_with (go_at_call 24; refine (src_n (w.heap.size + 1) 6 _ aa len cap w.heap.size (by omega) (by omega) hl HS3.out HY3.out (by omega)).mono ?_; rintro x w4 ⟨r4, rfl, hr4, hs4, hg4⟩; have hX4 : w4.heap[w2.heap.size]? = some (txnObj p e s u a n q b m r) := (hg4.block _ hz3 (some_ne (by omega))).trans HX3.out; have hc4 := fun o => tcell hX4 o; have hR4 : w4.heap[w.heap.size]? = some (txnObj 0 0 0 0 none 0 0 none 0 0) := (hg4.block _ (tblk_lt HR3.out) (some_ne (by omega))).trans HR3.out; have hd4 := fun o => tcell hR4 o; have hf4 := fun o => tunfrozen hR4 o; have HW4 : Hid (TW w4 (w.heap.size + 1 + 1) a n q b m r rs ls) := HW3.out.draw hg4 (by omega); have HL4 : Hid (Below w.heap.size w w4) := HL3.out.grown hg4 (by have := HL3.out.size; omega) (fun k e' => by have := Option.some.inj e'; omega); have hW4 : IntKind.i64.wrap ((r4 : Int) - 1) = (r4 : Int) - 1 := twrap_in _ (by omega) (by omega); clear hs4 hg4 hX4 hR4)) | fail
  all_goals
    go_wp2
    refine bodyPost_ret (v := .tuple #[txnV p e s u a n q b m r, .int .i64 ((r4 : Int) - 1)]) (by simp [results, Try.results9, go_sem, hd4]) rfl ⟨p, e, s, u, a, n, q, b, m, r, rs, ls, (r4 : Int) - 1, rfl, ?_, hn, hm, by omega, ?_⟩
    · exact (HW4.out.set6 (k := w.heap.size) (by omega) _ _ _ _ _ _).fit (by omega) (by omega)
    · exact below_set6 HL4.out w.heap.size (Nat.le_refl _) _ _ _ _ _ _
set_option maxHeartbeats 1000000 in
theorem lw_nums (a b : Option Addr) (n ca cb : Nat) (l : List Int) (w : World) (ha : Nums w a n l) (hb : Nums w b n l) (hn : n ≤ 2097152) :
    Calls Try.prog 16 #[.slice a n ca, .slice b n cb] w fun x w' => x = .returned (.bool true) ∧ Below w.heap.size w w' := by
  have HA : Hid (Nums w a n l) := ha
  have HB : Hid (Nums w b n l) := hb
  clear ha hb
  go_enter Try.func16, Try.ntmps16
  go_wp2
  go_loopw [5] (fun i wr => ∃ k : Nat, k ≤ n ∧ i = .int .i64 k ∧ Hid (Below w.heap.size w wr)) (fun i _ => n - (intOf i).toNat)
  case atStart => exact ⟨0, by omega, rfl, Below.refl _ _⟩
  case round =>
    obtain ⟨k, hk, rfl, hw⟩ := hrel
    by_cases hlt : k < n
    · obtain ⟨b1, o1, V, rfl, e1, c1⟩ := nums_at HA.out hw.out hlt
      obtain ⟨b2, o2, V', rfl, e2, c2⟩ := nums_at HB.out hw.out hlt
      obtain rfl : V = V' := Option.some.inj (e1.symm.trans e2)
      clear e1 e2
      have hVV : (V != V) = false := by simp
      go_wp2
      go_region
      all_goals go_wp2
      all_goals first | exact ⟨⟨k + 1, by omega, by go_num, hw.out.drew⟩, by simp [intOf]; omega⟩ | (go_roundw; all_goals first | exact ⟨k + 1, by omega, by go_num, hw.out.drew⟩ | (simp [intOf]; omega))
    · go_wp2
      go_ret
      exact ⟨rfl, hw.out⟩
set_option maxHeartbeats 1000000 in
theorem lw_txn {p e s u : Int} {ra la : Option Addr} {rl rc ll lc : Nat} (ra' : Option Addr) (rc' : Nat) (la' : Option Addr) (lc' : Nat) (rs ls : List Int) (w : World)
    (h1 : Nums w ra rl rs) (h2 : Nums w ra' rl rs) (h3 : Nums w la ll ls) (h4 : Nums w la' ll ls) (hr : rl ≤ 2097152) (hc : ll ≤ 2097152) :
    Calls Try.prog 11 #[txnV p e s u ra rl rc la ll lc, txnV p e s u ra' rl rc' la' ll lc'] w fun x w' => x = .returned (.bool true) ∧ Below w.heap.size w w' := by
  have e1 : (p == p) = true := by simp
  have e2 : (e == e) = true := by simp
  have e3 : (s == s) = true := by simp
  have e4 : (u == u) = true := by simp
  have H1 : Hid _ := h1
  have H2 : Hid _ := h2
  have H3 : Hid _ := h3
  have H4 : Hid _ := h4
  clear h1 h2 h3 h4
  have hB0 : Hid (Below w.heap.size w ((w.alloc (txnObj p e s u ra rl rc la ll lc)).alloc (txnObj p e s u ra' rl rc' la' ll lc'))) := ((Below.refl _ _).alloc (Nat.le_refl _) _).alloc (by simp) _
  go_enter Try.func11, Try.ntmps11
  go_wp2_with fail
  refine (lw_nums ra ra' rl rc rc' rs _ (nums_below H1.out hB0.out) (nums_below H2.out hB0.out) hr).mono ?_
  rintro x w1 ⟨rfl, hb1⟩
  have hc1 := fun o => hb1.cell (p := ⟨w.heap.size, o, none⟩) (by simp only [World.size_alloc]; omega)
  have hc2 := fun o => hb1.cell (p := ⟨w.heap.size + 1, o, none⟩) (by simp only [World.size_alloc]; omega)
  have hB1 : Hid (Below w.heap.size w w1) := tbelow_tr hB0.out hb1
  clear hb1
  go_wp2_with fail
  refine (lw_nums la la' ll lc lc' ls _ (nums_below H3.out hB1.out) (nums_below H4.out hB1.out) hc).mono ?_
  rintro x w2 ⟨rfl, hb2⟩
  have hB2 : Hid (Below w.heap.size w w2) := tbelow_tr hB1.out hb2
  go_wp2
  go_ret
  exact ⟨rfl, hB2.out⟩
end Go.Proofs.Ytgjomkgbpfklkaa
