/- A drawn transaction. -/
import Derived.Test.YtgjomkgbpfklkaaDrawsTxn
import Derived.Deep.RegionLaw
namespace Go.Proofs.Ytgjomkgbpfklkaa
open Go.RowKit

theorem touchL_len (p e s u : Int) (rs ls : List Int) (g : Int) : (touchL p e s u rs ls g).length ≤ rs.length + 1 := by
  unfold touchL insN
  split
  · split
    · omega
    · simp; omega
  · omega
theorem endL_len (p e s u : Int) (rs ls : List Int) (st : Int) : (endL p e s u rs ls st).length ≤ max rs.length ls.length := by
  unfold endL
  split <;> omega
theorem TD.len {w wr : World} {g : Nat} {aa : Option Addr} {len cap B T : Nat} {p e s u : Int} {a : Option Addr} {n q : Nat} {b : Option Addr} {m r : Nat} {rs ls : List Int} (h : TD w wr g aa len cap B T p e s u a n q b m r rs ls) : rs.length = n ∧ ls.length = m := by
  have h1 := h.own1.1
  have h2 := h.own2.1
  simp at h1 h2
  exact ⟨h1, h2⟩
theorem tdx_touch {w wr w1 : World} {g : Nat} {aa : Option Addr} {len cap B T N : Nat} {p e s u : Int} {a : Option Addr} {n q : Nat} {b : Option Addr} {m r : Nat} {rs ls : List Int} {a6 b6 : Option Addr} {q6 m6 : Nat} (x : Int) (h : TD w wr g aa len cap B T p e s u a n q b m r rs ls) (hb : Below wr.heap.size wr w1) (ho : OwnTxn w1 wr.heap.size a6 (touchL p e s u rs ls x).length q6 b6 ls.length m6 (numCells (touchL p e s u rs ls x)) (numCells ls)) (hn : n ≤ N) (hm : m ≤ N) :
    TDX w (tset6 w1 T (.int .i64 p) (.int .i64 e) (.int .i64 s) (.int .i64 u) (.slice a6 (touchL p e s u rs ls x).length q6) (.slice b6 ls.length m6)) g aa len cap B T (N + 1) := by
  have h1 := touchL_len p e s u rs ls x
  have h2 := h.len
  exact ⟨_, _, _, _, _, _, _, _, _, _, _, _, h.put hb ho, ho.2.2, by omega, by omega⟩
theorem tdx_end {w wr w1 : World} {g : Nat} {aa : Option Addr} {len cap B T N : Nat} {p e s u : Int} {a : Option Addr} {n q : Nat} {b : Option Addr} {m r : Nat} {rs ls : List Int} {a6 b6 : Option Addr} {q6 m6 : Nat} (x : Int) (h : TD w wr g aa len cap B T p e s u a n q b m r rs ls) (hb : Below wr.heap.size wr w1) (ho : OwnTxn w1 wr.heap.size a6 rs.length q6 b6 (endL p e s u rs ls x).length m6 (numCells rs) (numCells (endL p e s u rs ls x))) (hn : n ≤ N) (hm : m ≤ N) :
    TDX w (tset6 w1 T (.int .i64 p) (.int .i64 e) (.int .i64 (endS p e s u rs ls x)) (.int .i64 u) (.slice a6 rs.length q6) (.slice b6 (endL p e s u rs ls x).length m6)) g aa len cap B T N := by
  have h1 := endL_len p e s u rs ls x
  have h2 := h.len
  exact ⟨_, _, _, _, _, _, _, _, _, _, _, _, h.put hb ho, ho.2.2, by omega, by omega⟩
set_option maxRecDepth 100000 in
set_option maxHeartbeats 4000000 in
theorem src_txn (g : Nat) (w : World) (aa : Option Addr) (len cap B : Nat) (hl : len ≤ 1048576) (hs : Src w g aa len cap) (hb : Bytes B w aa len) (hB : B ≤ g) (hg : g < w.heap.size) :
    Calls Try.prog 23 #[.pointer (some ⟨g, 0, none⟩)] w fun x w' => ∃ p e s u a n q b m r rs ls, x = .returned (txnV p e s u a n q b m r) ∧ w'.ownsRow (w.heap.size + 1) 2 1 (.slice a n q) n (numCells rs) ∧ w'.ownsRow (w.heap.size + 1) 2 1 (.slice b m r) m (numCells ls) ∧ n ≤ 100 ∧ m ≤ 100 ∧ Src w' g aa len cap ∧ Below g w w' := by
  obtain ⟨i0, hi0, hz0, hz1, hz2⟩ := info_parts info_i64
  have hal : Below w.heap.size w (w.alloc (txnObj 0 0 0 0 none 0 0 none 0 0)) := tbelow_new _ _
  have HS : Hid (Src (w.alloc (txnObj 0 0 0 0 none 0 0 none 0 0)) g aa len cap) := src_below hs hal hg
  have HB : Hid (Bytes B (w.alloc (txnObj 0 0 0 0 none 0 0 none 0 0)) aa len) := bytes_below hb hal (by omega)
  have HL : Hid (Below g w (w.alloc (txnObj 0 0 0 0 none 0 0 none 0 0))) := hal.mono (by omega)
  have HR : Hid ((w.alloc (txnObj 0 0 0 0 none 0 0 none 0 0)).heap[w.heap.size]? = some (txnObj 0 0 0 0 none 0 0 none 0 0)) := heap_alloc_new w _
  clear hs hb hal
  have HST : Hid (∀ wx wy, Src wy g aa len cap → Bytes B wx aa len → Below g w wx → wx.heap[w.heap.size]? = some (txnObj 0 0 0 0 none 0 0 none 0 0) → wx.grownBy wy (some g) → Bytes B wy aa len ∧ Below g w wy ∧ wy.heap[w.heap.size]? = some (txnObj 0 0 0 0 none 0 0 none 0 0)) := fun wx wy _ h2 h3 h4 hgr => by
    have hz := tblk_lt h4
    exact ⟨bytes_grown h2 hgr hB, h3.grown hgr (by omega) (fun k e' => by simp at e'; omega), (hgr.block _ hz (by simp; omega)).trans h4⟩
  go_enter Try.func23, Try.ntmps23
  go_wp2_with fail
  refine (src_n g 4 _ aa len cap B (by omega) (by omega) hl HS.out HB.out hB).mono ?_
  rintro x w1 ⟨r1, rfl, hr1, hs1, hg1⟩
  obtain ⟨k1, k2, k3⟩ := HST.out _ _ hs1 HB.out HL.out HR.out hg1
  have HS1 : Hid (Src w1 g aa len cap) := hs1
  have HB1 : Hid (Bytes B w1 aa len) := k1
  have HL1 : Hid (Below g w w1) := k2
  have HR1 : Hid _ := k3
  clear hs1 hg1 k1 k2 k3 HS HB HL HR
  go_wp2_with fail
  refine (src_n g 3 _ aa len cap B (by omega) (by omega) hl HS1.out HB1.out hB).mono ?_
  rintro x w2 ⟨r2, rfl, hr2, hs2, hg2⟩
  obtain ⟨k1, k2, k3⟩ := HST.out _ _ hs2 HB1.out HL1.out HR1.out hg2
  have HS2 : Hid (Src w2 g aa len cap) := hs2
  have HB2 : Hid (Bytes B w2 aa len) := k1
  have HL2 : Hid (Below g w w2) := k2
  have HR2 : Hid _ := k3
  clear hs2 hg2 k1 k2 k3 HS1 HB1 HL1 HR1
  go_wp2_with fail
  refine (src_n g 30 _ aa len cap B (by omega) (by omega) hl HS2.out HB2.out hB).mono ?_
  rintro x w3 ⟨r3, rfl, hr3, hs3, hg3⟩
  obtain ⟨k1, k2, k3⟩ := HST.out _ _ hs3 HB2.out HL2.out HR2.out hg3
  have HD3 : Hid (TD w (w3.alloc (txnObj (1 + (r1 : Int)) (1 + (r2 : Int)) 1 (r3 : Int) none 0 0 none 0 0)) g aa len cap B w3.heap.size (1 + (r1 : Int)) (1 + (r2 : Int)) 1 (r3 : Int) none 0 0 none 0 0 [] []) := td_first _ _ _ _ k3 hs3 k1 k2 hg hB
  clear hs3 hg3 k1 k2 k3 HS2 HB2 HL2 HR2 HST
  go_wp2_with fail
  refine (src_n g 4 _ aa len cap B (by omega) (by omega) hl HD3.out.src HD3.out.byt hB).mono ?_
  rintro x w4 ⟨r4, rfl, hr4, hs4, hg4⟩
  obtain ⟨T, hT⟩ : ∃ T, w3.heap.size = T := ⟨_, rfl⟩
  have HX4 : Hid (TDX w w4 g aa len cap B T 0) := ⟨_, _, _, _, _, _, _, _, _, _, _, _, by rw [← hT]; exact HD3.out.draw hs4 hg4, (fun g' e' => by simp [Value.ownBlock] at e'), Nat.le_refl _, Nat.le_refl _⟩
  rw [hT]
  clear hs4 hg4 HD3 hT hr1 hr2 hr3
  go_wp2_with fail
  go_loopw [4] (fun kk wr => ∃ (k N : Nat), kk = .int .i64 k ∧ N + k ≤ 10 ∧ k ≤ 4 ∧ Hid (TDX w wr g aa len cap B T N)) (fun kk _ => (intOf kk).toNat)
  case atStart => exact ⟨r4, 0, rfl, by omega, by omega, HX4.out⟩
  case round =>
    obtain ⟨k, N, rfl, hNk, hk4, hX⟩ := hrel
    clear HX4
    by_cases h0 : 0 < k
    · obtain ⟨p, e, s, u, a, n, q, b, m, r, rs, ls, hD, hap, hn, hm⟩ := hX.out
      have HD : Hid (TD w wr.drew g aa len cap B T p e s u a n q b m r rs ls) := hD.drew
      have hc0 := fun o => tcell hD.box o
      have hf0 := fun o => tunfrozen hD.box o
      clear hD hap hX
      go_wp2
      go_region_with (first
        | (go_at_call 24; refine (src_n g 4 _ aa len cap B (by omega) (by omega) hl HD.out.src HD.out.byt hB).mono ?_; rintro x w5 ⟨r5, rfl, hr5, hs5, hg5⟩; have HD5 : Hid (TD w w5 g aa len cap B T p e s u a n q b m r rs ls) := HD.out.draw hs5 hg5; have hc5 := fun o => tcell HD5.out.box o; clear hs5 hg5)
        | (go_at_call 13; refine (spec_txnTouch (r5 : Int) rs ls _ (HD5.out.fit (by omega) (by omega))).mono ?_; rintro x w6 ⟨a6, q6, b6, m6, rfl, ho6, hb6⟩; have hc6 := fun o => tcell (tblk HD5.out.box hb6) o; have hf6 := fun o => tunfrozen (tblk HD5.out.box hb6) o; have HX6 : Hid (TDX w (tset6 w6 T (.int .i64 p) (.int .i64 e) (.int .i64 s) (.int .i64 u) (.slice a6 (touchL p e s u rs ls (r5 : Int)).length q6) (.slice b6 ls.length m6)) g aa len cap B T (N + 1)) := tdx_touch (r5 : Int) HD5.out hb6 ho6 hn hm; clear ho6 hb6))
      all_goals go_wp2
      all_goals first | exact ⟨⟨k - 1, N + 1, by go_num, by omega, by omega, HX6.out⟩, by simp [intOf]; omega⟩ | (go_roundw; all_goals first | exact ⟨k - 1, N + 1, by go_num, by omega, by omega, HX6.out⟩ | (simp [intOf]; omega))
    · have HX : Hid (TDX w wr g aa len cap B T 10) := by
        obtain ⟨p, e, s, u, a, n, q, b, m, r, rs, ls, hD, hap, hn, hm⟩ := hX.out
        exact ⟨p, e, s, u, a, n, q, b, m, r, rs, ls, hD, hap, by omega, by omega⟩
      clear hX
      obtain rfl : k = 0 := by omega
      have HSB : Hid (Src wr g aa len cap ∧ Bytes B wr aa len) := by
        obtain ⟨p, e, s, u, a, n, q, b, m, r, rs, ls, hD, _⟩ := HX.out
        exact ⟨hD.src, hD.byt⟩
      go_wp2_with fail
      refine (src_one g 2 _ aa len cap B (by omega) (by omega) hl HSB.out.1 HSB.out.2 hB).mono ?_
      rintro x w7 ⟨r7, rfl, hr7, hs7, hg7⟩
      have HX7 : Hid (TDX w w7 g aa len cap B T 10) := by
        obtain ⟨p, e, s, u, a, n, q, b, m, r, rs, ls, hD, rest⟩ := HX.out
        exact ⟨p, e, s, u, a, n, q, b, m, r, rs, ls, hD.draw hs7 hg7, rest⟩
      clear hs7 hg7 HX HSB
      go_upto_if 25 with fail
      go_cut [] (fun wc => Hid (TDX w wc g aa len cap B T 10))
      case first =>
        by_cases h0 : r7 = 0
        · have h0b : ((r7 : Int) == 0) = true := by rw [beq_iff_eq]; omega
          obtain ⟨p, e, s, u, a, n, q, b, m, r, rs, ls, hD, hap, hn, hm⟩ := HX7.out
          have HD : Hid (TD w w7.drew g aa len cap B T p e s u a n q b m r rs ls) := hD.drew
          have hc0 := fun o => tcell hD.box o
          have hf0 := fun o => tunfrozen hD.box o
          clear hD hap HX7 h0
          go_wp2
          first | (go_region_with (first
            | (go_at_call 24; refine (src_n g 2 _ aa len cap B (by omega) (by omega) hl HD.out.src HD.out.byt hB).mono ?_; rintro x w5 ⟨r5, rfl, hr5, hs5, hg5⟩; have HD5 : Hid (TD w w5 g aa len cap B T p e s u a n q b m r rs ls) := HD.out.draw hs5 hg5; have hc5 := fun o => tcell HD5.out.box o; have hW5 : IntKind.i64.wrap (2 + (r5 : Int)) = 2 + (r5 : Int) := twrap_in _ (by omega) (by omega); clear hs5 hg5)
            | (go_at_call 12; refine (spec_txnEnd (2 + (r5 : Int)) rs ls _ (HD5.out.fit (by omega) (by omega))).mono ?_; rintro x w6 ⟨a6, q6, b6, m6, rfl, ho6, hb6⟩; have hc6 := fun o => tcell (tblk HD5.out.box hb6) o; have hf6 := fun o => tunfrozen (tblk HD5.out.box hb6) o; have HX6 : Hid (TDX w (tset6 w6 T (.int .i64 p) (.int .i64 e) (.int .i64 (endS p e s u rs ls (2 + (r5 : Int)))) (.int .i64 u) (.slice a6 rs.length q6) (.slice b6 (endL p e s u rs ls (2 + (r5 : Int))).length m6)) g aa len cap B T 10) := tdx_end (2 + (r5 : Int)) HD5.out hb6 ho6 hn hm; clear ho6 hb6))) | fail
          all_goals (go_wp2_with fail; go_meet; exact HX6)
        · have h0b : ((r7 : Int) == 0) = false := by rw [beq_eq_false_iff_ne]; omega
          clear h0
          go_wp2_with fail
          go_meet
          exact HX7
      case rest =>
      have HXc : Hid (TDX w wc g aa len cap B T 10) := hcut
      clear hcut HX7 hr7
      have HSB : Hid (Src wc g aa len cap ∧ Bytes B wc aa len) := by
        obtain ⟨p, e, s, u, a, n, q, b, m, r, rs, ls, hD, _⟩ := HXc.out
        exact ⟨hD.src, hD.byt⟩
      go_wp2_with fail
      refine (src_one g 10 _ aa len cap B (by omega) (by omega) hl HSB.out.1 HSB.out.2 hB).mono ?_
      rintro x w8 ⟨r8, rfl, hr8, hs8, hg8⟩
      have HX8 : Hid (TDX w w8 g aa len cap B T 10) := by
        obtain ⟨p, e, s, u, a, n, q, b, m, r, rs, ls, hD, rest⟩ := HXc.out
        exact ⟨p, e, s, u, a, n, q, b, m, r, rs, ls, hD.draw hs8 hg8, rest⟩
      clear hs8 hg8 HXc HSB
      go_upto_if 32 with fail
      go_cut [] (fun wd => Hid (TDY w wd g aa len cap B T 11))
      case first =>
        by_cases h0 : r8 = 0
        · have h0b : ((r8 : Int) == 0) = true := by rw [beq_iff_eq]; omega
          obtain ⟨p, e, s, u, a, n, q, b, m, r, rs, ls, hD, hap, hn, hm⟩ := HX8.out
          have HD : Hid (TD w w8 g aa len cap B T p e s u a n q b m r rs ls) := hD
          have HAP : Hid (AP a n q b m r) := hap
          clear hD hap HX8 h0
          go_wp2_with fail
          refine (src_n g 4 _ aa len cap B (by omega) (by omega) hl HD.out.src HD.out.byt hB).mono ?_
          rintro x w9 ⟨r9, rfl, hr9, hs9, hg9⟩
          have HD9 : Hid (TD w w9 g aa len cap B T p e s u a n q b m r rs ls) := HD.out.draw hs9 hg9
          clear hs9 hg9 HD
          by_cases hA : r9 = 0
          · have hAb : ((r9 : Int) == 0) = true := by rw [beq_iff_eq]; omega
            clear hA
            go_wp2_with fail
            refine (src_n g 5 _ aa len cap B (by omega) (by omega) hl HD9.out.src HD9.out.byt hB).mono ?_
            rintro x w10 ⟨r10, rfl, hr10, hs10, hg10⟩
            have HD10 : Hid (TD w w10 g aa len cap B T p e s u a n q b m r rs ls) := HD9.out.draw hs10 hg10
            have hc10 := fun o => tcell HD10.out.box o
            have hf10 := fun o => tunfrozen HD10.out.box o
            have HY : Hid (TDY w (w10.setCell ⟨T, 2, none⟩ (.int .i64 (r10 : Int))) g aa len cap B T 11) := ⟨_, _, _, _, _, _, _, _, _, _, _, _, HD10.out.num2 (r10 : Int), by omega, by omega⟩
            clear hs10 hg10
            go_wp2_with fail
            go_meet
            exact HY
          · have hAb : ((r9 : Int) == 0) = false := by rw [beq_eq_false_iff_ne]; omega
            by_cases hC : r9 = 1
            · have hCb : ((r9 : Int) == 1) = true := by rw [beq_iff_eq]; omega
              have HDd : Hid (TD w w9.drew g aa len cap B T p e s u a n q b m r rs ls) := HD9.out.drew
              have hc9 := fun o => tcell HD9.out.box o
              have hf9 := fun o => tunfrozen HD9.out.box o
              clear hA hC
              go_wp2
              first | (go_region_law (first
                | (go_simp; go_at_call 24; refine (src_n g 5 _ aa len cap B (by omega) (by omega) hl HDd.out.src HDd.out.byt hB).mono ?_; rintro x w5 ⟨r5, rfl, hr5, hs5, hg5⟩; have HD5 : Hid (TD w w5 g aa len cap B T p e s u a n q b m r rs ls) := HDd.out.draw hs5 hg5; have hc5 := fun o => tcell HD5.out.box o; have hbx5 := tblk_lt HD5.out.box; clear hs5 hg5)
                | (refine step_append_own_any (by rfl) _ _ _ (by rfl) (T + 1) 2 i0 _ 1 8 Try.underlying23 hi0 hz0 hz1 hz2 (by rfl) (by omega) (.slice b m r) m _ (by rfl) (HD5.out.own2.alloc _) (some ⟨w5.heap.size, 0, none⟩) 1 1 [.int .i64 (r5 : Int)] (by rfl) (by rfl) (fun e' => by cases e') (fun ad e' => by cases e'; exact cell_one_new _ _ _) (by simp [Value.oneCell']) (by unfold maxLen; omega) (by omega) (by simp; omega) ?_; intro v6 w6 ho6 hg6; obtain ⟨b6, c6, rfl⟩ := own_numV ho6; have hst := HD5.out.appL HAP.out ho6 hg6; have hc6 := hst.1; have hf6 := hst.2.1; have HY : Hid (TDY w (w6.setCell ⟨T, 5, none⟩ (.slice b6 (m + 1) c6)) g aa len cap B T 11) := ⟨_, _, _, _, _, _, _, _, _, _, _, _, hst.2.2, (by omega), (by omega)⟩; clear ho6 hg6 hst))) | fail
              all_goals (go_wp2_with fail; go_meet; exact HY)
            · have hCb : ((r9 : Int) == 1) = false := by rw [beq_eq_false_iff_ne]; omega
              by_cases hE : r9 = 2
              · have hEb : ((r9 : Int) == 2) = true := by rw [beq_iff_eq]; omega
                clear hA hC hE
                have hal : Below w9.heap.size w9 (w9.alloc (.cells #[.int .i64 0, .int .i64 5] 2)) := tbelow_new _ _
                have HDa : Hid (TD w (w9.alloc (.cells #[.int .i64 0, .int .i64 5] 2)) g aa len cap B T p e s u a n q b m r rs ls) := HD9.out.under hal
                have hbx9 := tblk_lt HD9.out.box
                have hgl9 := HD9.out.gl
                have hlt9 := HD9.out.lt
                clear hal
                go_wp2_with fail
                refine (src_n g 2 _ aa len cap B (by omega) (by omega) hl HDa.out.src HDa.out.byt hB).mono ?_
                rintro x w10 ⟨r10, rfl, hr10, hs10, hg10⟩
                have HD10 : Hid (TD w w10 g aa len cap B T p e s u a n q b m r rs ls) := HDa.out.draw hs10 hg10
                obtain ⟨v, hv⟩ : ∃ v : Int, (#[.int .i64 0, .int .i64 5] : Array Value)[r10]? = some (.int .i64 v) := by
                  rcases (show r10 = 0 ∨ r10 = 1 by omega) with e' | e' <;> subst e'
                  · exact ⟨_, rfl⟩
                  · exact ⟨_, rfl⟩
                have hcell : w10.cell? ⟨w9.heap.size, r10, none⟩ = some (.int .i64 v) := hg10.cell (a := ⟨w9.heap.size, r10, none⟩) ((tcell (heap_alloc_new w9 _) r10).trans hv) (by simp; omega)
                have hc10 := fun o => tcell HD10.out.box o
                have hf10 := fun o => tunfrozen HD10.out.box o
                have HY : Hid (TDY w (w10.setCell ⟨T, 0, none⟩ (.int .i64 v)) g aa len cap B T 11) := ⟨_, _, _, _, _, _, _, _, _, _, _, _, HD10.out.num0 v, by omega, by omega⟩
                clear hs10 hg10 hv
                go_wp2_with fail
                go_meet
                exact HY
              · have hEb : ((r9 : Int) == 2) = false := by rw [beq_eq_false_iff_ne]; omega
                have HDd : Hid (TD w w9.drew g aa len cap B T p e s u a n q b m r rs ls) := HD9.out.drew
                have hc9 := fun o => tcell HD9.out.box o
                have hf9 := fun o => tunfrozen HD9.out.box o
                clear hA hC hE
                go_wp2
                first | (go_region_law (first
                  | (go_simp; go_at_call 24; refine (src_n g 5 _ aa len cap B (by omega) (by omega) hl HDd.out.src HDd.out.byt hB).mono ?_; rintro x w5 ⟨r5, rfl, hr5, hs5, hg5⟩; have HD5 : Hid (TD w w5 g aa len cap B T p e s u a n q b m r rs ls) := HDd.out.draw hs5 hg5; have hc5 := fun o => tcell HD5.out.box o; have hbx5 := tblk_lt HD5.out.box; clear hs5 hg5)
                  | (refine step_append_own_any (by rfl) _ _ _ (by rfl) (T + 1) 2 i0 _ 1 8 Try.underlying23 hi0 hz0 hz1 hz2 (by rfl) (by omega) (.slice a n q) n _ (by rfl) (HD5.out.own1.alloc _) (some ⟨w5.heap.size, 0, none⟩) 1 1 [.int .i64 (r5 : Int)] (by rfl) (by rfl) (fun e' => by cases e') (fun ad e' => by cases e'; exact cell_one_new _ _ _) (by simp [Value.oneCell']) (by unfold maxLen; omega) (by omega) (by simp; omega) ?_; intro v6 w6 ho6 hg6; obtain ⟨b6, c6, rfl⟩ := own_numV ho6; have hst := HD5.out.appR HAP.out ho6 hg6; have hc6 := hst.1; have hf6 := hst.2.1; have HY : Hid (TDY w (w6.setCell ⟨T, 4, none⟩ (.slice b6 (n + 1) c6)) g aa len cap B T 11) := ⟨_, _, _, _, _, _, _, _, _, _, _, _, hst.2.2, (by omega), (by omega)⟩; clear ho6 hg6 hst))) | fail
                all_goals (go_wp2_with fail; go_meet; exact HY)
        · have h0b : ((r8 : Int) == 0) = false := by rw [beq_eq_false_iff_ne]; omega
          have HY : Hid (TDY w w8 g aa len cap B T 11) := by
            obtain ⟨p, e, s, u, a, n, q, b, m, r, rs, ls, hD, hap, hn, hm⟩ := HX8.out
            exact ⟨p, e, s, u, a, n, q, b, m, r, rs, ls, hD, by omega, by omega⟩
          clear h0
          go_wp2_with fail
          go_meet
          exact HY
      case rest =>
      obtain ⟨p, e, s, u, a, n, q, b, m, r, rs, ls, hD, hn, hm⟩ := hcut.out
      have hc := fun o => tcell hD.box o
      have hr := fun o => tcell hD.res o
      have hf := fun o => tunfrozen hD.res o
      have hlt := hD.lt
      have hgl := hD.gl
      have hst : Below w.heap.size wc (tset6 wc w.heap.size (.int .i64 p) (.int .i64 e) (.int .i64 s) (.int .i64 u) (.slice a n q) (.slice b m r)) := below_set6 (Below.refl _ _) w.heap.size (Nat.le_refl _) _ _ _ _ _ _
      have HF : Hid (((tset6 wc w.heap.size (.int .i64 p) (.int .i64 e) (.int .i64 s) (.int .i64 u) (.slice a n q) (.slice b m r)).ownsRow (w.heap.size + 1) 2 1 (.slice a n q) n (numCells rs) ∧ (tset6 wc w.heap.size (.int .i64 p) (.int .i64 e) (.int .i64 s) (.int .i64 u) (.slice a n q) (.slice b m r)).ownsRow (w.heap.size + 1) 2 1 (.slice b m r) m (numCells ls)) ∧ Src (tset6 wc w.heap.size (.int .i64 p) (.int .i64 e) (.int .i64 s) (.int .i64 u) (.slice a n q) (.slice b m r)) g aa len cap ∧ Below g w (tset6 wc w.heap.size (.int .i64 p) (.int .i64 e) (.int .i64 s) (.int .i64 u) (.slice a n q) (.slice b m r))) :=
        ⟨⟨(own_set6 hD.own1 w.heap.size (by omega) _ _ _ _ _ _).mono (by omega), (own_set6 hD.own2 w.heap.size (by omega) _ _ _ _ _ _).mono (by omega)⟩, src_below hD.src hst hgl, hD.bel.trans (hst.mono (by omega))⟩
      clear hcut hD hst HX8
      go_wp2
      exact bodyPost_ret (v := txnV p e s u a n q b m r) (by simp [results, Try.results23, go_sem, hr]) rfl ⟨p, e, s, u, a, n, q, b, m, r, rs, ls, rfl, HF.out.1.1, HF.out.1.2, by omega, by omega, HF.out.2.1, HF.out.2.2⟩
end Go.Proofs.Ytgjomkgbpfklkaa
