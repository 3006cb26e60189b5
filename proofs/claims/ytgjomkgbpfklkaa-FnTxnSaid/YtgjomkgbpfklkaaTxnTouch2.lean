/- TxnTouch of the specification. -/
import Derived.Test.YtgjomkgbpfklkaaTxnTouch
namespace Go.Proofs.Ytgjomkgbpfklkaa
open Go.RowKit
variable {p e s u : Int} {ra la : Option Addr} {rl rc ll lc : Nat}

/-- While the specification touches a ring: the two boxes at the front, the copy's box, and the copy's Left. -/
structure TO (w w1 wr : World) (o0 o1 o : Obj) (b : Option Addr) (n c : Nat) (ys : List Value) : Prop where
  t2 : T2 w wr o0 o1
  bo : wr.heap[w1.heap.size]? = some o
  own : wr.ownsRow (w.heap.size + 2) 2 1 (.slice b n c) n ys
  ltb : ∀ g, (Value.slice b n c).ownBlock = some g → g < w1.heap.size
  size : w1.heap.size + 1 ≤ wr.heap.size
  le : w.heap.size + 2 ≤ w1.heap.size
theorem TO.grown {w w1 wr wx : World} {o0 o1 o : Obj} {b : Option Addr} {n c : Nat} {ys : List Value} {row : Option Nat} (h : TO w w1 wr o0 o1 o b n c ys) (hg : wr.grownBy wx row) (hr : ∀ j, row = some j → w1.heap.size + 1 ≤ j) : TO w w1 wx o0 o1 o b n c ys := by
  have hle := h.le
  have hz := h.size
  refine ⟨h.t2.grown hg (fun j e' => by have := hr j e'; omega), (hg.block _ (by omega) (fun e' => by have := hr _ e'.symm; omega)).trans h.bo, h.own.kept hg ?_, h.ltb, Nat.le_trans h.size hg.size, h.le⟩
  cases hq : (Value.slice b n c).ownBlock with
  | none => exact .inl rfl
  | some g =>
    right
    intro e'
    have h1 := h.ltb g hq
    have h2 := hr g e'.symm
    omega
theorem TO.alloc {w w1 wr : World} {o0 o1 o : Obj} {b : Option Addr} {n c : Nat} {ys : List Value} (h : TO w w1 wr o0 o1 o b n c ys) (x : Obj) : TO w w1 (wr.alloc x) o0 o1 o b n c ys := h.grown (World.grownBy_alloc wr x none) (fun j e' => by cases e')
theorem to_start {w w1 : World} {o0 o1 o : Obj} {a b : Option Addr} {m q n c N : Nat} {xs ys : List Value} (h : T2 w w1 o0 o1) (ho : OwnTxn w1 N a m q b n c xs ys) (hN : w.heap.size + 2 ≤ N) : TO w w1 (w1.alloc o) o0 o1 o b n c ys :=
  ⟨h.alloc o, heap_alloc_new _ _, (ho.2.1.mono hN).alloc o, fun g e' => (ho.2.1.lt g e').2, by simp, h.size⟩
theorem TO.fin {w w1 wr : World} {o0 o1 o : Obj} {b a : Option Addr} {n c m q : Nat} {xs ys : List Value} (h : TO w w1 wr o0 o1 o b n c ys) (hx : wr.ownsRow (w1.heap.size + 1) 2 1 (.slice a m q) m xs) (v v0 v1 v2 v3 v4 v5 : Value) :
    OwnTxn (tset6 (wr.setCell ⟨w1.heap.size, 4, none⟩ v) (w.heap.size + 1) v0 v1 v2 v3 v4 v5) w.heap.size a m q b n c xs ys ∧ Below w.heap.size w (tset6 (wr.setCell ⟨w1.heap.size, 4, none⟩ v) (w.heap.size + 1) v0 v1 v2 v3 v4 v5) := by
  have hle := h.le
  have hy : (wr.setCell ⟨w1.heap.size, 4, none⟩ v).ownsRow (w.heap.size + 2) 2 1 (.slice b n c) n ys := by
    refine ⟨h.own.1, ?_⟩
    rcases h.own.2 with hn | ⟨g, cap, cur, e', hb', hg', rest⟩
    · exact .inl hn
    · have hgl : g < w1.heap.size := h.ltb g (by rw [e']; rfl)
      exact .inr ⟨g, cap, cur, e', hb', (Below.heap_setCell wr ⟨w1.heap.size, 4, none⟩ v g (show g ≠ w1.heap.size by omega)).trans hg', rest⟩
  refine ⟨⟨?_, ?_, ?_⟩, ?_⟩
  · exact (own_set6 (ownsRow_setCell_below hx (a := ⟨w1.heap.size, 4, none⟩) (show w1.heap.size < w1.heap.size + 1 by omega) _) (w.heap.size + 1) (by omega) _ _ _ _ _ _).mono (by omega)
  · exact (own_set6 hy (w.heap.size + 1) (by omega) _ _ _ _ _ _).mono (by omega)
  · intro g h1 h2
    have := (hx.lt g h1).1
    have := h.ltb g h2
    omega
  · exact below_set6 (h.t2.below.setCell (p := ⟨w1.heap.size, 4, none⟩) (show w.heap.size ≤ w1.heap.size by omega) _) (w.heap.size + 1) (show w.heap.size ≤ w.heap.size + 1 by omega) _ _ _ _ _ _
theorem tans_ins {w w' : World} {p e s u : Int} {rs ls xs : List Int} {a b : Option Addr} {n q m r : Nat} (hx : xs = rs) (hn : xs.length = n) (hm : ls.length = m) (ho : OwnTxn w' w.heap.size a n q b m r (numCells xs) (numCells ls) ∧ Below w.heap.size w w') : TAns w w' (.returned (txnV p e s u a n q b m r)) p e s u rs ls := by
  subst hx hn hm
  exact ⟨a, q, b, r, rfl, ho.1, ho.2⟩
theorem nums_take {w : World} {b off n P : Nat} {l : List Int} (h : Nums w (some ⟨b, off, none⟩) n l) (hP : P ≤ n) : Nums w (some ⟨b, off, none⟩) P (l.take P) := by
  have hl : l.length = n := h.1
  refine ⟨by simp; omega, fun k hk => ?_⟩
  have hk' : k < P := by simp at hk; omega
  obtain ⟨b', off', e, hc⟩ := h.2 k (by omega)
  cases e
  exact ⟨b, off, rfl, by rw [hc]; simp⟩
theorem nums_drop {w : World} {b off n P : Nat} {l : List Int} (h : Nums w (some ⟨b, off, none⟩) n l) (_hP : P ≤ n) : Nums w (some ⟨b, off + P, none⟩) (n - P) (l.drop P) := by
  have hl : l.length = n := h.1
  refine ⟨by simp; omega, fun k hk => ?_⟩
  have hk' : P + k < l.length := by simp at hk; omega
  obtain ⟨b', off', e, hc⟩ := h.2 (P + k) hk'
  cases e
  refine ⟨b, off + P, rfl, ?_⟩
  rw [show off + P + k = off + (P + k) by omega, hc]; simp
set_option maxRecDepth 100000 in
set_option maxHeartbeats 8000000 in
theorem spec_ttouch (g : Int) (rs ls : List Int) (w : World) (hi : TFit w ra rl rc la ll lc rs ls) :
    Calls Try.prog 36 #[txnV p e s u ra rl rc la ll lc, .int .i64 g] w fun x w' => TAns w w' x p e s u (insN g rs) ls := by
  obtain ⟨i0, hi0, hz0, hz1, hz2⟩ := info_parts info_i64
  have HI : Hid (TFit w ra rl rc la ll lc rs ls) := hi
  have hrl : rl ≤ 1048577 := Nat.le_succ_of_le hi.rle
  have hrl' : rl ≤ 1048576 := hi.rle
  have hll : ll ≤ 1048577 := Nat.le_succ_of_le hi.lle
  have hrcm : rc ≤ 2 ^ 63 - 1 := hi.rcm
  have HL : Hid (rs.length = rl) := hi.rs.nums.1
  have HLC : Hid (ls.length = ll) := hi.ls.nums.1
  have HHA : Hid _ := fun w h => spec_has ra rl rc rs g w h hrl'
  have H1 : Hid (hasB rs g = true → insN g rs = rs) := fun h => by simp [insN, h]
  have H2 : Hid (hasB rs g = false → rs.take (findN g rs) ++ g :: rs.drop (findN g rs) = insN g rs) := fun h => by simp [insN, h]
  clear hi
  have HS0 : Hid (T2 w ((w.alloc (txnObj p e s u ra rl rc la ll lc)).alloc (txnObj 0 0 0 0 none 0 0 none 0 0)) (txnObj p e s u ra rl rc la ll lc) (txnObj 0 0 0 0 none 0 0 none 0 0)) := t2_start ..
  obtain ⟨T, hT⟩ : ∃ T, hasB rs g = T := ⟨_, rfl⟩
  rw [hT] at HHA H1 H2
  clear hT
  go_enter Try.func36, Try.ntmps36
  go_wp2_with fail
  refine (spec_tcopy rs ls _ (HI.out.rs.below HS0.out.below) (HI.out.ls.below HS0.out.below) hrl hll).mono ?_
  rintro x w1 ⟨a1, q1, b1, m1, rfl, ho1, hb1⟩
  have HS1 : Hid (T2 w w1 (txnObj p e s u ra rl rc la ll lc) (txnObj 0 0 0 0 none 0 0 none 0 0)) := HS0.out.under hb1
  have HO1 : Hid (OwnTxn w1 (w.heap.size + 2) a1 rl q1 b1 ll m1 (numCells rs) (numCells ls)) := ho1.mono (by simp)
  clear hb1 ho1
  have HT1 : Hid (TO w w1 (w1.alloc (txnObj p e s u a1 rl q1 b1 ll m1)) (txnObj p e s u ra rl rc la ll lc) (txnObj 0 0 0 0 none 0 0 none 0 0) (txnObj p e s u a1 rl q1 b1 ll m1) b1 ll m1 (numCells ls)) := to_start HS1.out HO1.out (Nat.le_refl _)
  have HO1' : Hid (OwnTxn (w1.alloc (txnObj p e s u a1 rl q1 b1 ll m1)) (w.heap.size + 2) a1 rl q1 b1 ll m1 (numCells rs) (numCells ls)) := HO1.out.below (tbelow_new _ _)
  have hlt1 : w.heap.size < w1.heap.size := (t2_lt HS1.out).1
  have hne1 : w.heap.size ≠ w1.heap.size := by omega
  have hc1 := fun o => HS1.out.cell0 o
  go_wp2_with fail
  refine (HHA.out _ (HI.out.rs.below HT1.out.t2.below).nums).mono ?_
  rintro x w1' ⟨rfl, hw1⟩
  rw [hw1]
  clear hw1 w1'
  obtain ⟨W1, eW1⟩ : ∃ W1, w1.alloc (txnObj p e s u a1 rl q1 b1 ll m1) = W1 := ⟨_, rfl⟩
  have hzW : W1.heap.size = w1.heap.size + 1 := by rw [← eW1]; simp
  rw [eW1] at HT1 HO1' ⊢
  clear eW1 hc1 HO1
  have hc1 := fun o => HT1.out.t2.cell0 o
  have hd1 := fun o => HT1.out.t2.cell1 o
  have hf1 := fun o => HT1.out.t2.free1 o
  have hx1 := fun o => tcell HT1.out.bo o
  have hle1 := HT1.out.le
  cases T
  · have HE : Hid _ := H2.out (by simp)
    clear H1 H2 HHA
    go_wp2
    go_loop [6] (fun i => ∃ k : Nat, k ≤ rl ∧ i = .int .i64 k ∧ Hid (lowN g rs k)) (fun i => rl - (intOf i).toNat)
    case atStart => exact ⟨0, by omega, rfl, fun j hj => by omega⟩
    case round =>
      obtain ⟨k, hkn, rfl, hr⟩ := hrel
      have hend : (k < rl → ∀ h : k < rs.length, g ≤ rs[k]) → Hid (findN g rs = k) := fun h => by
        by_cases hk : k < rl
        · have hkl : k < rs.length := by rw [HL.out]; exact hk
          exact (findN_at hr.out hkl (h hk hkl)).1
        · show _ = _
          rw [(findN_none hr.out (by rw [HL.out]; omega)).1, HL.out]
          omega
      cases ra with
      | none =>
        obtain ⟨e1, e2⟩ := HI.out.rs.nil rfl
        subst e1 e2
        obtain rfl : k = 0 := by omega
        have HK := hend (fun h => by omega)
        have hrs : Hid (rs = []) := List.eq_nil_of_length_eq_zero HL.out
        clear hend hr
        have HTa : Hid (TO w w1 (W1.alloc (.cells #[] 2)) (txnObj p e s u none 0 0 la ll lc) (txnObj 0 0 0 0 none 0 0 none 0 0) (txnObj p e s u a1 0 q1 b1 ll m1) b1 ll m1 (numCells ls)) := HT1.out.alloc _
        have HRW : Hid ((W1.alloc (.cells #[] 2)).ownsRow (w1.heap.size + 1) 2 1 (.slice (some ⟨w1.heap.size + 1, 0, none⟩) 0 0) 0 []) := by
          have h := t_row W1 2 1
          rw [hzW] at h
          exact h
        go_wp2_with (first
          | (at_builtin; refine wpList_append_own_any (by rfl) _ _ 23 (by rfl) (w1.heap.size + 1) 2 i0 _ 1 8 Try.underlying23 hi0 hz0 hz1 hz2 (by rfl) (by omega) (.slice (some ⟨w1.heap.size + 1, 0, none⟩) 0 0) 0 [] (by rfl) HRW.out none 0 0 (numCells (rs.take 0)) (by rfl) (by simp [hrs.out]) (fun _ => ⟨rfl, rfl⟩) (fun _ e' => by cases e') (numCells_one _) (by unfold maxLen; omega) (by omega) HTa.out.size ?_; intro v2 w2 ho2 hg2; simp only [Nat.zero_add, List.nil_append] at ho2; have ht2 := HTa.out.grown hg2 (fun j e' => by simp [Value.ownBlock] at e'; omega); have HTb : Hid (TO w w1 (w2.alloc (.cells #[.int .i64 g] 2)) (txnObj p e s u none 0 0 la ll lc) (txnObj 0 0 0 0 none 0 0 none 0 0) (txnObj p e s u a1 0 q1 b1 ll m1) b1 ll m1 (numCells ls)) := ht2.alloc _; have HO2 : Hid (w2.ownsRow (w1.heap.size + 1) 2 1 v2 0 (numCells (rs.take 0))) := ho2; clear ht2 ho2 hg2)
          | (at_builtin; refine wpList_append_own_any (by rfl) _ _ 23 (by rfl) (w1.heap.size + 1) 2 i0 _ 1 8 Try.underlying23 hi0 hz0 hz1 hz2 (by rfl) (by omega) v2 0 (numCells (rs.take 0)) (by rfl) (HO2.out.alloc _) (some ⟨w2.heap.size, 0, none⟩) 1 1 [.int .i64 g] (by rfl) (by rfl) (fun e' => by cases e') (fun ad e' => by cases e'; exact cell_one_new _ _ _) (by simp [Value.oneCell']) (by unfold maxLen; omega) (by omega) HTb.out.size ?_; intro v3 w3 ho3 hg3; have ht3 := HTb.out.grown hg3 (fun j e' => (HO2.out.lt j e').1); have HTc : Hid (TO w w1 w3 (txnObj p e s u none 0 0 la ll lc) (txnObj 0 0 0 0 none 0 0 none 0 0) (txnObj p e s u a1 0 q1 b1 ll m1) b1 ll m1 (numCells ls)) := ht3; have hc3 := fun o => ht3.t2.cell0 o; have HO3 : Hid (w3.ownsRow (w1.heap.size + 1) 2 1 v3 (0 + 1) (numCells (rs.take 0) ++ [.int .i64 g])) := ho3; clear ht3 ho3 hg3)
          | (at_builtin; refine wpList_append_own_any (by rfl) _ _ 23 (by rfl) (w1.heap.size + 1) 2 i0 _ 1 8 Try.underlying23 hi0 hz0 hz1 hz2 (by rfl) (by omega) v3 (0 + 1) (numCells (rs.take 0) ++ [.int .i64 g]) (by rfl) HO3.out none 0 0 (numCells (rs.drop 0)) (by rfl) (by simp [hrs.out]) (fun _ => ⟨rfl, rfl⟩) (fun _ e' => by cases e') (numCells_one _) (by unfold maxLen; omega) (by omega) HTc.out.size ?_; intro v4 w4 ho4 hg4; have hf4 := with_finN ho4 (show 0 + 1 + 0 = 0 + 1 by omega); obtain ⟨a4, c4, rfl⟩ := own_numV hf4; have ht4 := HTc.out.grown hg4 (fun j e' => (HO3.out.lt j e').1); have hx4 := fun o => tcell ht4.bo o; have hy4 := fun o => tunfrozen ht4.bo o; have hd4 := fun o => ht4.t2.cell1 o; have hv4 := fun o => ht4.t2.free1 o; have HF : Hid _ := ht4.fin hf4 (.slice a4 (0 + 1) c4) (.int .i64 p) (.int .i64 e) (.int .i64 s) (.int .i64 u) (.slice a4 (0 + 1) c4) (.slice b1 ll m1); have HLN : Hid ((rs.take 0 ++ g :: rs.drop 0).length = 0 + 1) := (show _ = _ by simp [hrs.out]); clear ht4 ho4 hg4 hf4))
        refine bodyPost_ret (v := txnV p e s u a4 (0 + 1) c4 b1 ll m1) (by simp [results, Try.results36, go_sem, hd4]) rfl ?_
        exact tans_ins (by rw [← HE.out, HK.out]) HLN.out HLC.out HF.out
      | some ax =>
        obtain ⟨b, off, eax⟩ : ∃ b off, ax = ⟨b, off, none⟩ := ⟨_, _, HI.out.rs.off ax rfl⟩
        subst eax
        have hcap := HI.out.rs.cap
        by_cases hlt : k < rl
        · obtain ⟨b', off', e', hj, g1⟩ := nums_get (HI.out.rs.below HT1.out.t2.below).nums (Below.refl _ _) (k := k) hlt
          cases e'
          by_cases hG : rs[k] < g
          · have hE : Hid (lowN g rs (k + 1)) := fun i hi h1 => by
              by_cases hik : i = k
              · subst hik; exact hG
              · exact hr.out i (by omega) h1
            obtain ⟨G1, eG⟩ : ∃ G, rs[k] = G := ⟨_, rfl⟩
            rw [eG] at g1 hG
            clear eG hr hend hj
            go_wp2
            exact ⟨⟨k + 1, by omega, by go_num, hE.out⟩, by simp [intOf]; omega⟩
          · have HK := hend (fun _ _ => by omega)
            obtain ⟨G1, eG⟩ : ∃ G, rs[k] = G := ⟨_, rfl⟩
            rw [eG] at g1 hG
            clear eG hr hend hj
            have hrck : k < rc := by omega
            have HTa : Hid (TO w w1 (W1.alloc (.cells #[] 2)) (txnObj p e s u (some ⟨b, off, none⟩) rl rc la ll lc) (txnObj 0 0 0 0 none 0 0 none 0 0) (txnObj p e s u a1 rl q1 b1 ll m1) b1 ll m1 (numCells ls)) := HT1.out.alloc _
            have HRW : Hid ((W1.alloc (.cells #[] 2)).ownsRow (w1.heap.size + 1) 2 1 (.slice (some ⟨w1.heap.size + 1, 0, none⟩) 0 0) 0 []) := by
              have h := t_row W1 2 1
              rw [hzW] at h
              exact h
            go_wp2_with (first
              | (at_builtin; refine wpList_append_own_any (by rfl) _ _ 23 (by rfl) (w1.heap.size + 1) 2 i0 _ 1 8 Try.underlying23 hi0 hz0 hz1 hz2 (by rfl) (by omega) (.slice (some ⟨w1.heap.size + 1, 0, none⟩) 0 0) 0 [] (by rfl) HRW.out (some ⟨b, off, none⟩) k rc (numCells (rs.take k)) (by rfl) (by rw [List.length_map, List.length_take, HL.out]; omega) (fun e' => by cases e') (nums_news (nums_take (HI.out.rs.below HTa.out.t2.below).nums (by omega))) (numCells_one _) (by unfold maxLen; omega) (by omega) HTa.out.size ?_; intro v2 w2 ho2 hg2; simp only [Nat.zero_add, List.nil_append] at ho2; have ht2 := HTa.out.grown hg2 (fun j e' => by simp [Value.ownBlock] at e'; omega); have HTb : Hid (TO w w1 (w2.alloc (.cells #[.int .i64 g] 2)) (txnObj p e s u (some ⟨b, off, none⟩) rl rc la ll lc) (txnObj 0 0 0 0 none 0 0 none 0 0) (txnObj p e s u a1 rl q1 b1 ll m1) b1 ll m1 (numCells ls)) := ht2.alloc _; have HO2 : Hid (w2.ownsRow (w1.heap.size + 1) 2 1 v2 k (numCells (rs.take k))) := ho2; clear ht2 ho2 hg2)
              | (at_builtin; refine wpList_append_own_any (by rfl) _ _ 23 (by rfl) (w1.heap.size + 1) 2 i0 _ 1 8 Try.underlying23 hi0 hz0 hz1 hz2 (by rfl) (by omega) v2 k (numCells (rs.take k)) (by rfl) (HO2.out.alloc _) (some ⟨w2.heap.size, 0, none⟩) 1 1 [.int .i64 g] (by rfl) (by rfl) (fun e' => by cases e') (fun ad e' => by cases e'; exact cell_one_new _ _ _) (by simp [Value.oneCell']) (by unfold maxLen; omega) (by omega) HTb.out.size ?_; intro v3 w3 ho3 hg3; have ht3 := HTb.out.grown hg3 (fun j e' => (HO2.out.lt j e').1); have HTc : Hid (TO w w1 w3 (txnObj p e s u (some ⟨b, off, none⟩) rl rc la ll lc) (txnObj 0 0 0 0 none 0 0 none 0 0) (txnObj p e s u a1 rl q1 b1 ll m1) b1 ll m1 (numCells ls)) := ht3; have hc3 := fun o => ht3.t2.cell0 o; have HO3 : Hid (w3.ownsRow (w1.heap.size + 1) 2 1 v3 (k + 1) (numCells (rs.take k) ++ [.int .i64 g])) := ho3; clear ht3 ho3 hg3)
              | (at_builtin; refine wpList_append_own_any (by rfl) _ _ 23 (by rfl) (w1.heap.size + 1) 2 i0 _ 1 8 Try.underlying23 hi0 hz0 hz1 hz2 (by rfl) (by omega) v3 (k + 1) (numCells (rs.take k) ++ [.int .i64 g]) (by rfl) HO3.out (some ⟨b, off + k, none⟩) (rl - k) (rc - k) (numCells (rs.drop k)) (by rfl) (by rw [List.length_map, List.length_drop, HL.out]; omega) (fun e' => by cases e') (nums_news (nums_drop (HI.out.rs.below HTc.out.t2.below).nums (by omega))) (numCells_one _) (by unfold maxLen; omega) (by omega) HTc.out.size ?_; intro v4 w4 ho4 hg4; have hf4 := with_finN ho4 (show k + 1 + (rl - k) = rl + 1 by omega); obtain ⟨a4, c4, rfl⟩ := own_numV hf4; have ht4 := HTc.out.grown hg4 (fun j e' => (HO3.out.lt j e').1); have hx4 := fun o => tcell ht4.bo o; have hy4 := fun o => tunfrozen ht4.bo o; have hd4 := fun o => ht4.t2.cell1 o; have hv4 := fun o => ht4.t2.free1 o; have HF : Hid _ := ht4.fin hf4 (.slice a4 (rl + 1) c4) (.int .i64 p) (.int .i64 e) (.int .i64 s) (.int .i64 u) (.slice a4 (rl + 1) c4) (.slice b1 ll m1); have HLN : Hid ((rs.take k ++ g :: rs.drop k).length = rl + 1) := (show _ = _ by have := HL.out; simp; omega); clear ht4 ho4 hg4 hf4))
            refine bodyPost_ret (v := txnV p e s u a4 (rl + 1) c4 b1 ll m1) (by simp [results, Try.results36, go_sem, hd4]) rfl ?_
            exact tans_ins (by rw [← HE.out, HK.out]) HLN.out HLC.out HF.out
        · obtain rfl : k = rl := by omega
          have HK := hend (fun h => by omega)
          clear hr hend
          by_cases hrk : rc = k
          · have hrk' := hrk.symm
            subst hrk'
            have HDR : Hid (rs.drop k = []) := List.drop_eq_nil_of_le (by rw [HL.out]; exact Nat.le_refl _)
            have HTa : Hid (TO w w1 (W1.alloc (.cells #[] 2)) (txnObj p e s u (some ⟨b, off, none⟩) k k la ll lc) (txnObj 0 0 0 0 none 0 0 none 0 0) (txnObj p e s u a1 k q1 b1 ll m1) b1 ll m1 (numCells ls)) := HT1.out.alloc _
            have HRW : Hid ((W1.alloc (.cells #[] 2)).ownsRow (w1.heap.size + 1) 2 1 (.slice (some ⟨w1.heap.size + 1, 0, none⟩) 0 0) 0 []) := by
              have h := t_row W1 2 1
              rw [hzW] at h
              exact h
            go_wp2_with (first
              | (at_builtin; refine wpList_append_own_any (by rfl) _ _ 23 (by rfl) (w1.heap.size + 1) 2 i0 _ 1 8 Try.underlying23 hi0 hz0 hz1 hz2 (by rfl) (by omega) (.slice (some ⟨w1.heap.size + 1, 0, none⟩) 0 0) 0 [] (by rfl) HRW.out (some ⟨b, off, none⟩) k k (numCells (rs.take k)) (by rfl) (by rw [List.length_map, List.length_take, HL.out]; omega) (fun e' => by cases e') (nums_news (nums_take (HI.out.rs.below HTa.out.t2.below).nums (by omega))) (numCells_one _) (by unfold maxLen; omega) (by omega) HTa.out.size ?_; intro v2 w2 ho2 hg2; simp only [Nat.zero_add, List.nil_append] at ho2; have ht2 := HTa.out.grown hg2 (fun j e' => by simp [Value.ownBlock] at e'; omega); have HTb : Hid (TO w w1 (w2.alloc (.cells #[.int .i64 g] 2)) (txnObj p e s u (some ⟨b, off, none⟩) k k la ll lc) (txnObj 0 0 0 0 none 0 0 none 0 0) (txnObj p e s u a1 k q1 b1 ll m1) b1 ll m1 (numCells ls)) := ht2.alloc _; have HO2 : Hid (w2.ownsRow (w1.heap.size + 1) 2 1 v2 k (numCells (rs.take k))) := ho2; clear ht2 ho2 hg2)
              | (at_builtin; refine wpList_append_own_any (by rfl) _ _ 23 (by rfl) (w1.heap.size + 1) 2 i0 _ 1 8 Try.underlying23 hi0 hz0 hz1 hz2 (by rfl) (by omega) v2 k (numCells (rs.take k)) (by rfl) (HO2.out.alloc _) (some ⟨w2.heap.size, 0, none⟩) 1 1 [.int .i64 g] (by rfl) (by rfl) (fun e' => by cases e') (fun ad e' => by cases e'; exact cell_one_new _ _ _) (by simp [Value.oneCell']) (by unfold maxLen; omega) (by omega) HTb.out.size ?_; intro v3 w3 ho3 hg3; have ht3 := HTb.out.grown hg3 (fun j e' => (HO2.out.lt j e').1); have HTc : Hid (TO w w1 w3 (txnObj p e s u (some ⟨b, off, none⟩) k k la ll lc) (txnObj 0 0 0 0 none 0 0 none 0 0) (txnObj p e s u a1 k q1 b1 ll m1) b1 ll m1 (numCells ls)) := ht3; have hc3 := fun o => ht3.t2.cell0 o; have HO3 : Hid (w3.ownsRow (w1.heap.size + 1) 2 1 v3 (k + 1) (numCells (rs.take k) ++ [.int .i64 g])) := ho3; clear ht3 ho3 hg3)
              | (at_builtin; refine wpList_append_own_any (by rfl) _ _ 23 (by rfl) (w1.heap.size + 1) 2 i0 _ 1 8 Try.underlying23 hi0 hz0 hz1 hz2 (by rfl) (by omega) v3 (k + 1) (numCells (rs.take k) ++ [.int .i64 g]) (by rfl) HO3.out (some ⟨b, off, none⟩) 0 0 (numCells (rs.drop k)) (by rfl) (by rw [HDR.out]; rfl) (fun e' => by cases e') (fun ad e' j v hv => by rw [HDR.out] at hv; simp at hv) (numCells_one _) (by unfold maxLen; omega) (by omega) HTc.out.size ?_; intro v4 w4 ho4 hg4; have hf4 := with_finN ho4 (show k + 1 + 0 = k + 1 by omega); obtain ⟨a4, c4, rfl⟩ := own_numV hf4; have ht4 := HTc.out.grown hg4 (fun j e' => (HO3.out.lt j e').1); have hx4 := fun o => tcell ht4.bo o; have hy4 := fun o => tunfrozen ht4.bo o; have hd4 := fun o => ht4.t2.cell1 o; have hv4 := fun o => ht4.t2.free1 o; have HF : Hid _ := ht4.fin hf4 (.slice a4 (k + 1) c4) (.int .i64 p) (.int .i64 e) (.int .i64 s) (.int .i64 u) (.slice a4 (k + 1) c4) (.slice b1 ll m1); have HLN : Hid ((rs.take k ++ g :: rs.drop k).length = k + 1) := (show _ = _ by have := HL.out; simp; omega); clear ht4 ho4 hg4 hf4))
            refine bodyPost_ret (v := txnV p e s u a4 (k + 1) c4 b1 ll m1) (by simp [results, Try.results36, go_sem, hd4]) rfl ?_
            exact tans_ins (by rw [← HE.out, HK.out]) HLN.out HLC.out HF.out
          · have hrck : k < rc := by omega
            have HDR : Hid (rs.drop k = []) := List.drop_eq_nil_of_le (by rw [HL.out]; exact Nat.le_refl _)
            have HTa : Hid (TO w w1 (W1.alloc (.cells #[] 2)) (txnObj p e s u (some ⟨b, off, none⟩) k rc la ll lc) (txnObj 0 0 0 0 none 0 0 none 0 0) (txnObj p e s u a1 k q1 b1 ll m1) b1 ll m1 (numCells ls)) := HT1.out.alloc _
            have HRW : Hid ((W1.alloc (.cells #[] 2)).ownsRow (w1.heap.size + 1) 2 1 (.slice (some ⟨w1.heap.size + 1, 0, none⟩) 0 0) 0 []) := by
              have h := t_row W1 2 1
              rw [hzW] at h
              exact h
            go_wp2_with (first
              | (at_builtin; refine wpList_append_own_any (by rfl) _ _ 23 (by rfl) (w1.heap.size + 1) 2 i0 _ 1 8 Try.underlying23 hi0 hz0 hz1 hz2 (by rfl) (by omega) (.slice (some ⟨w1.heap.size + 1, 0, none⟩) 0 0) 0 [] (by rfl) HRW.out (some ⟨b, off, none⟩) k rc (numCells (rs.take k)) (by rfl) (by rw [List.length_map, List.length_take, HL.out]; omega) (fun e' => by cases e') (nums_news (nums_take (HI.out.rs.below HTa.out.t2.below).nums (by omega))) (numCells_one _) (by unfold maxLen; omega) (by omega) HTa.out.size ?_; intro v2 w2 ho2 hg2; simp only [Nat.zero_add, List.nil_append] at ho2; have ht2 := HTa.out.grown hg2 (fun j e' => by simp [Value.ownBlock] at e'; omega); have HTb : Hid (TO w w1 (w2.alloc (.cells #[.int .i64 g] 2)) (txnObj p e s u (some ⟨b, off, none⟩) k rc la ll lc) (txnObj 0 0 0 0 none 0 0 none 0 0) (txnObj p e s u a1 k q1 b1 ll m1) b1 ll m1 (numCells ls)) := ht2.alloc _; have HO2 : Hid (w2.ownsRow (w1.heap.size + 1) 2 1 v2 k (numCells (rs.take k))) := ho2; clear ht2 ho2 hg2)
              | (at_builtin; refine wpList_append_own_any (by rfl) _ _ 23 (by rfl) (w1.heap.size + 1) 2 i0 _ 1 8 Try.underlying23 hi0 hz0 hz1 hz2 (by rfl) (by omega) v2 k (numCells (rs.take k)) (by rfl) (HO2.out.alloc _) (some ⟨w2.heap.size, 0, none⟩) 1 1 [.int .i64 g] (by rfl) (by rfl) (fun e' => by cases e') (fun ad e' => by cases e'; exact cell_one_new _ _ _) (by simp [Value.oneCell']) (by unfold maxLen; omega) (by omega) HTb.out.size ?_; intro v3 w3 ho3 hg3; have ht3 := HTb.out.grown hg3 (fun j e' => (HO2.out.lt j e').1); have HTc : Hid (TO w w1 w3 (txnObj p e s u (some ⟨b, off, none⟩) k rc la ll lc) (txnObj 0 0 0 0 none 0 0 none 0 0) (txnObj p e s u a1 k q1 b1 ll m1) b1 ll m1 (numCells ls)) := ht3; have hc3 := fun o => ht3.t2.cell0 o; have HO3 : Hid (w3.ownsRow (w1.heap.size + 1) 2 1 v3 (k + 1) (numCells (rs.take k) ++ [.int .i64 g])) := ho3; clear ht3 ho3 hg3)
              | (at_builtin; refine wpList_append_own_any (by rfl) _ _ 23 (by rfl) (w1.heap.size + 1) 2 i0 _ 1 8 Try.underlying23 hi0 hz0 hz1 hz2 (by rfl) (by omega) v3 (k + 1) (numCells (rs.take k) ++ [.int .i64 g]) (by rfl) HO3.out (some ⟨b, off + k, none⟩) 0 (rc - k) (numCells (rs.drop k)) (by rfl) (by rw [HDR.out]; rfl) (fun e' => by cases e') (fun ad e' j v hv => by rw [HDR.out] at hv; simp at hv) (numCells_one _) (by unfold maxLen; omega) (by omega) HTc.out.size ?_; intro v4 w4 ho4 hg4; have hf4 := with_finN ho4 (show k + 1 + 0 = k + 1 by omega); obtain ⟨a4, c4, rfl⟩ := own_numV hf4; have ht4 := HTc.out.grown hg4 (fun j e' => (HO3.out.lt j e').1); have hx4 := fun o => tcell ht4.bo o; have hy4 := fun o => tunfrozen ht4.bo o; have hd4 := fun o => ht4.t2.cell1 o; have hv4 := fun o => ht4.t2.free1 o; have HF : Hid _ := ht4.fin hf4 (.slice a4 (k + 1) c4) (.int .i64 p) (.int .i64 e) (.int .i64 s) (.int .i64 u) (.slice a4 (k + 1) c4) (.slice b1 ll m1); have HLN : Hid ((rs.take k ++ g :: rs.drop k).length = k + 1) := (show _ = _ by have := HL.out; simp; omega); clear ht4 ho4 hg4 hf4))
            refine bodyPost_ret (v := txnV p e s u a4 (k + 1) c4 b1 ll m1) (by simp [results, Try.results36, go_sem, hd4]) rfl ?_
            exact tans_ins (by rw [← HE.out, HK.out]) HLN.out HLC.out HF.out
  · have HE : Hid _ := H1.out (by simp)
    clear H1 H2 HHA
    go_wp2
    refine bodyPost_ret (v := txnV p e s u a1 rl q1 b1 ll m1) (by simp [results, Try.results36, go_sem, hd1]) rfl ?_
    rw [HE.out]
    exact tans_fin HL.out HLC.out HO1'.out (Nat.le_refl _) HT1.out.t2.below _ _ _ _ _ _
set_option maxRecDepth 100000 in
set_option maxHeartbeats 4000000 in
theorem spec_txnTouch (g : Int) (rs ls : List Int) (w : World) (hi : TFit w ra rl rc la ll lc rs ls) :
    Calls Try.prog 13 #[txnV p e s u ra rl rc la ll lc, .int .i64 g] w fun x w' => TAns w w' x p e s u (touchL p e s u rs ls g) ls := by
  have HI : Hid (TFit w ra rl rc la ll lc rs ls) := hi
  have hrl : rl ≤ 1048577 := Nat.le_succ_of_le hi.rle
  have hll : ll ≤ 1048577 := Nat.le_succ_of_le hi.lle
  have HL : Hid (rs.length = rl) := hi.rs.nums.1
  have HLC : Hid (ls.length = ll) := hi.ls.nums.1
  have HRT : Hid _ := fun w (h : TIn w ra rl la ll rs ls) => spec_txnRight (p := p) (e := e) (s := s) (u := u) (rc := rc) (lc := lc) rs ls w h
  have HIS : Hid _ := fun w => tspec_is g 0 3 w
  clear hi
  have HS0 : Hid (T2 w ((w.alloc (txnObj p e s u ra rl rc la ll lc)).alloc (txnObj 0 0 0 0 none 0 0 none 0 0)) (txnObj p e s u ra rl rc la ll lc) (txnObj 0 0 0 0 none 0 0 none 0 0)) := t2_start ..
  have HN : Hid ((openB p e s u rs ls && rnum g) = false → touchL p e s u rs ls g = rs) := fun h => by simp [touchL, h]
  have HY : Hid ((openB p e s u rs ls && rnum g) = true → touchL p e s u rs ls g = insN g rs) := fun h => by simp only [touchL, h]; simp
  have HCC : Hid ((openB p e s u rs ls && rnum g) = (txnRightB p e s u rs ls && decide (s = 1) && rnum g)) := rfl
  obtain ⟨R, hR⟩ : ∃ R, txnRightB p e s u rs ls = R := ⟨_, rfl⟩
  rw [hR] at HRT HCC
  clear hR
  cases R
  · have h1 := HN.out (HCC.out.trans (by simp))
    have H1 : Hid _ := h1
    clear h1 HN HY HCC
    go_enter Try.func13, Try.ntmps13
    go_wp2_with fail
    refine (HRT.out _ (HI.out.tin.below HS0.out.below)).mono ?_
    rintro x w1 ⟨rfl, hb1⟩
    have HS1 : Hid _ := HS0.out.under hb1
    have hc1 := fun o => HS1.out.cell0 o
    clear hb1
    go_wp2_with fail
    refine (spec_tcopy rs ls _ (HI.out.rs.below HS1.out.below) (HI.out.ls.below HS1.out.below) hrl hll).mono ?_
    rintro x w2 ⟨a2, q2, b2, m2, rfl, ho2, hb2⟩
    have HS2 : Hid _ := HS1.out.under hb2
    have hc2 := fun o => HS2.out.cell1 o
    have hf2 := fun o => HS2.out.free1 o
    have HO2 : Hid (OwnTxn w2 w1.heap.size a2 rl q2 b2 ll m2 (numCells rs) (numCells ls)) := ho2
    clear hb2 ho2 hc1
    go_wp2
    refine bodyPost_ret (v := txnV p e s u a2 rl q2 b2 ll m2) (by simp [results, Try.results13, go_sem, hc2]) rfl ?_
    rw [H1.out]
    exact tans_fin HL.out HLC.out HO2.out HS1.out.size HS2.out.below _ _ _ _ _ _
  · by_cases hs : s = 1
    · subst hs
      by_cases hst : 0 ≤ g ∧ g ≤ 3
      · rw [decide_eq_true hst] at HIS
        have h1 := HY.out (HCC.out.trans (by simp [rnum, hst]))
        have H1 : Hid _ := h1
        clear h1 HN HY HCC hst
        go_enter Try.func13, Try.ntmps13
        go_wp2_with fail
        refine (HRT.out _ (HI.out.tin.below HS0.out.below)).mono ?_
        rintro x w1 ⟨rfl, hb1⟩
        have HS1 : Hid _ := HS0.out.under hb1
        have hc1 := fun o => HS1.out.cell0 o
        clear hb1
        go_wp2_with fail
        refine (HIS.out _).mono ?_
        rintro x w1' ⟨rfl, hw1⟩
        rw [hw1]
        clear hw1 w1'
        go_wp2_with fail
        refine (spec_ttouch g rs ls _ (HI.out.below HS1.out.below)).mono ?_
        rintro x w2 ⟨a2, q2, b2, m2, rfl, ho2, hb2⟩
        have HS2 : Hid _ := HS1.out.under hb2
        have hc2 := fun o => HS2.out.cell1 o
        have hf2 := fun o => HS2.out.free1 o
        have HO2 : Hid (OwnTxn w2 w1.heap.size a2 (insN g rs).length q2 b2 ls.length m2 (numCells (insN g rs)) (numCells ls)) := ho2
        clear hb2 ho2 hc1
        go_wp2
        refine bodyPost_ret (v := txnV p e 1 u a2 (insN g rs).length q2 b2 ls.length m2) (by simp [results, Try.results13, go_sem, hc2]) rfl ?_
        rw [H1.out]
        exact tans_fin rfl rfl HO2.out HS1.out.size HS2.out.below _ _ _ _ _ _
      · rw [decide_eq_false hst] at HIS
        have h1 := HN.out (HCC.out.trans (by simp [rnum, hst]))
        have H1 : Hid _ := h1
        clear h1 HN HY HCC hst
        go_enter Try.func13, Try.ntmps13
        go_wp2_with fail
        refine (HRT.out _ (HI.out.tin.below HS0.out.below)).mono ?_
        rintro x w1 ⟨rfl, hb1⟩
        have HS1 : Hid _ := HS0.out.under hb1
        have hc1 := fun o => HS1.out.cell0 o
        clear hb1
        go_wp2_with fail
        refine (HIS.out _).mono ?_
        rintro x w1' ⟨rfl, hw1⟩
        rw [hw1]
        clear hw1 w1'
        go_wp2_with fail
        refine (spec_tcopy rs ls _ (HI.out.rs.below HS1.out.below) (HI.out.ls.below HS1.out.below) hrl hll).mono ?_
        rintro x w2 ⟨a2, q2, b2, m2, rfl, ho2, hb2⟩
        have HS2 : Hid _ := HS1.out.under hb2
        have hc2 := fun o => HS2.out.cell1 o
        have hf2 := fun o => HS2.out.free1 o
        have HO2 : Hid (OwnTxn w2 w1.heap.size a2 rl q2 b2 ll m2 (numCells rs) (numCells ls)) := ho2
        clear hb2 ho2 hc1
        go_wp2
        refine bodyPost_ret (v := txnV p e 1 u a2 rl q2 b2 ll m2) (by simp [results, Try.results13, go_sem, hc2]) rfl ?_
        rw [H1.out]
        exact tans_fin HL.out HLC.out HO2.out HS1.out.size HS2.out.below _ _ _ _ _ _
    · have hs' : (s != 1) = true := by simpa using hs
      have h1 := HN.out (HCC.out.trans (by simp [hs]))
      have H1 : Hid _ := h1
      clear h1 HN HY HCC hs
      go_enter Try.func13, Try.ntmps13
      go_wp2_with fail
      refine (HRT.out _ (HI.out.tin.below HS0.out.below)).mono ?_
      rintro x w1 ⟨rfl, hb1⟩
      have HS1 : Hid _ := HS0.out.under hb1
      have hc1 := fun o => HS1.out.cell0 o
      clear hb1
      go_wp2_with fail
      refine (spec_tcopy rs ls _ (HI.out.rs.below HS1.out.below) (HI.out.ls.below HS1.out.below) hrl hll).mono ?_
      rintro x w2 ⟨a2, q2, b2, m2, rfl, ho2, hb2⟩
      have HS2 : Hid _ := HS1.out.under hb2
      have hc2 := fun o => HS2.out.cell1 o
      have hf2 := fun o => HS2.out.free1 o
      have HO2 : Hid (OwnTxn w2 w1.heap.size a2 rl q2 b2 ll m2 (numCells rs) (numCells ls)) := ho2
      clear hb2 ho2 hc1
      go_wp2
      refine bodyPost_ret (v := txnV p e s u a2 rl q2 b2 ll m2) (by simp [results, Try.results13, go_sem, hc2]) rfl ?_
      rw [H1.out]
      exact tans_fin HL.out HLC.out HO2.out HS1.out.size HS2.out.below _ _ _ _ _ _
end Go.Proofs.Ytgjomkgbpfklkaa
