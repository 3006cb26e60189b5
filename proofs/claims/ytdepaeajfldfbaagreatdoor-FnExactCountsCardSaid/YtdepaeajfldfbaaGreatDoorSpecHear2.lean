import Derived.Test.YtdepaeajfldfbaaGreatDoorSpecFab3
import Derived.Test.YtdepaeajfldfbaaGreatDoorFabSame
import Derived.Test.YtdepaeajfldfbaaGreatDoorSpecFab5
import Derived.Deep.RegionHeld3
import Derived.Deep.DrawnRows
/- What those who hear a ring are told: plain mathematics. -/
namespace Go.Proofs.YtdepaeajfldfbaaGreatDoor
open Go.RowKit

/-- Whether a record is data of a transaction that stands so. -/
def dataOf (ts : List TD) (st : Int) (s : ByteArray) : Bool := (readRes s).1 == 1 && (match ts[((readRes s).2.1 - 1).toNat]? with | some t => t.s == st | none => false)
def stableR (ts : List TD) (r : RD) : Int := r.first + (r.recs.findIdx (dataOf ts 1) : Int)
def stableV (rs : List RD) (ts : List TD) (n : Int) : Int := match rs[n.toNat]? with | some r => stableR ts r | none => 0
def countsR (ts : List TD) (r : RD) (a : Int) : Bool := decide (r.first ≤ a ∧ a ≤ r.first + (r.recs.length : Int) - 1) && (match r.recs[(a - r.first).toNat]? with | some s => dataOf ts 2 s | none => false)
def countsV (rs : List RD) (ts : List TD) (n a : Int) : Bool := match rs[n.toNat]? with | some r => countsR ts r a | none => false
def noneTo (p : ByteArray → Bool) (recs : List ByteArray) (j : Nat) : Prop := ∀ i, i < j → ∀ (h : i < recs.length), p recs[i] = false
theorem noneTo_succ {p : ByteArray → Bool} {recs : List ByteArray} {j : Nat} (h : noneTo p recs j) (hj : j < recs.length) (hr : p recs[j] = false) : noneTo p recs (j + 1) := fun i hi hl => by
  by_cases e : i = j
  · subst e; exact hr
  · exact h i (by omega) hl
theorem noneTo_at {p : ByteArray → Bool} {recs : List ByteArray} {j : Nat} (h : noneTo p recs j) (hj : j < recs.length) (hr : p recs[j] = true) : recs.findIdx p = j :=
  (List.findIdx_eq hj).2 ⟨hr, fun i hi => h i hi (by omega)⟩
theorem noneTo_end {p : ByteArray → Bool} {recs : List ByteArray} {j : Nat} (h : noneTo p recs j) (hj : recs.length ≤ j) : recs.findIdx p = recs.length :=
  List.findIdx_eq_length.2 fun x hx => by
    obtain ⟨i, hi, rfl⟩ := List.getElem_of_mem hx
    exact h i (by omega) hi
theorem dataOf_strip (ts : List TD) (st : Int) (s : ByteArray) : dataOf (ts.map TD.strip) st s = dataOf ts st s := by
  unfold dataOf
  rw [List.getElem?_map]
  cases ts[((readRes s).2.1 - 1).toNat]? <;> rfl
theorem stableR_strip (ts : List TD) (r : RD) : stableR (ts.map TD.strip) r.strip = stableR ts r := by
  unfold stableR
  have : dataOf (ts.map TD.strip) 1 = dataOf ts 1 := funext fun s => dataOf_strip ts 1 s
  rw [this]
  rfl
theorem stableV_strip (rs : List RD) (ts : List TD) (n : Int) : stableV (rs.map RD.strip) (ts.map TD.strip) n = stableV rs ts n := by
  unfold stableV
  rw [List.getElem?_map]
  cases rs[n.toNat]? with
  | none => rfl
  | some r => exact stableR_strip ts r
theorem stableV_same {rs rs' : List RD} {ts ts' : List TD} (n : Int) (hr : rs.map RD.strip = rs'.map RD.strip) (ht : ts.map TD.strip = ts'.map TD.strip) : stableV rs ts n = stableV rs' ts' n := by
  rw [← stableV_strip rs ts, hr, ht, stableV_strip]
theorem countsR_strip (ts : List TD) (r : RD) (a : Int) : countsR (ts.map TD.strip) r.strip a = countsR ts r a := by
  unfold countsR
  have : dataOf (ts.map TD.strip) 2 = dataOf ts 2 := funext fun s => dataOf_strip ts 2 s
  rw [this]
  rfl
theorem countsV_strip (rs : List RD) (ts : List TD) (n a : Int) : countsV (rs.map RD.strip) (ts.map TD.strip) n a = countsV rs ts n a := by
  unfold countsV
  rw [List.getElem?_map]
  cases rs[n.toNat]? with
  | none => rfl
  | some r => exact countsR_strip ts r a
theorem countsV_same {rs rs' : List RD} {ts ts' : List TD} (n a : Int) (hr : rs.map RD.strip = rs'.map RD.strip) (ht : ts.map TD.strip = ts'.map TD.strip) : countsV rs ts n a = countsV rs' ts' n a := by
  rw [← countsV_strip rs ts, hr, ht, countsV_strip]
theorem right_ring {rs : List RD} {es : List Int} {ts : List TD} {now : Int} (h : fabRightB rs es ts now = true) {k : Nat} {r : RD} (hk : rs[k]? = some r) : ringFitB ts (k : Int) r = true := by
  simp only [fabRightB, Bool.and_eq_true] at h
  obtain ⟨hl, e⟩ := List.getElem?_eq_some_iff.1 hk
  have := of_decide_eq_true h.2 k hl hl
  rw [e] at this
  exact this
theorem fit_right {ts : List TD} {k : Int} {r : RD} (h : ringFitB ts k r = true) : ringRightB r.cap r.first r.recs r.curs = true := by
  simp only [ringFitB, Bool.and_eq_true] at h
  exact h.1.1.1
/-- Each record of a right ring is of a transaction that is there. -/
theorem fit_txn {ts : List TD} {k : Int} {r : RD} (h : ringFitB ts k r = true) {j : Nat} (hj : j < r.recs.length) : ∃ (M : Nat) (t : TD), (readRes r.recs[j]).2.1 = (M : Int) + 1 ∧ ts[M]? = some t := by
  simp only [ringFitB, Bool.and_eq_true, List.all_eq_true] at h
  have h1 := h.2 _ (List.getElem_mem hj)
  unfold recFitB numFitB at h1
  simp only [Bool.and_eq_true, decide_eq_true_eq] at h1
  refine ⟨((readRes r.recs[j]).2.1 - 1).toNat, ?_⟩
  cases ht : ts[((readRes r.recs[j]).2.1 - 1).toNat]? with
  | none => rw [ht] at h1; exact absurd h1.2 (by simp)
  | some t => exact ⟨t, by omega, rfl⟩
theorem dataOf_at {ts : List TD} {st : Int} {s : ByteArray} {M : Nat} {t : TD} (hM : (readRes s).2.1 = (M : Int) + 1) (ht : ts[M]? = some t) : dataOf ts st s = ((readRes s).1 == 1 && t.s == st) := by
  unfold dataOf
  rw [hM, show ((M : Int) + 1 - 1).toNat = M by omega, ht]
end Go.Proofs.YtdepaeajfldfbaaGreatDoor
/- The specification's hearing: Stable. -/
namespace Go.Proofs.YtdepaeajfldfbaaGreatDoor
open Go.RowKit
attribute [local go_sem ↓] Go.wp_at_zero Go.wp_at_succ
set_option linter.unusedSimpArgs false
set_option linter.unusedVariables false

/-- What stands while a record is looked at: the fabric's box, the ring's, the record's. -/
structure LX (w v : World) (o : Obj) (X : Nat) (r : RD) (ta : Option Addr) (tl : Nat) (ts : List TD) : Prop where
  lw : LW w v o X r ta tl ts
theorem rec_cells {w : World} {b : Nat} {k t : Int} {d : ByteArray} (h : w.heap[b]? = some (.cells #[.int .i64 k, .int .i64 t, .string d] 110 (0, 0))) (o : Nat) : w.cell? ⟨b, o, none⟩ = (#[.int .i64 k, .int .i64 t, .string d] : Array Value)[o]? := fb_cell h o
set_option maxRecDepth 100000 in
set_option maxHeartbeats 4000000 in
theorem spec_lstable (ra : Option Addr) (rl rc : Nat) (ea : Option Addr) (el ec : Nat) (ta : Option Addr) (tl tc : Nat) (now : Int) (rs : List RD) (ts : List TD) (k : Nat) (r : RD) (w : World) (hR : Rngs w ra rl rs) (hT : Txs w ta tl ts) (hk : rs[k]? = some r) (hfit : ringFitB ts (k : Int) r = true) (hrl : rl ≤ 1048576) (htl : tl ≤ 1048576) :
    Calls Tryz.prog 59 #[fabVal ra rl rc ea el ec ta tl tc now, .int .i64 k] w fun e w' => e = .returned (.int .i64 (stableR ts r)) ∧ Below w.heap.size w w' := by
  have hkl : k < rl := by rw [← hR.1]; exact (List.getElem?_eq_some_iff.1 hk).1
  have HT : Hid (Txs w ta tl ts) := hT
  have hF0 := fb_new w #[.slice ra rl rc, .slice ea el ec, .slice ta tl tc, .int .i64 now] 32
  obtain ⟨b, off, r', rfl, e1, g0, g1, g2, g3, hf⟩ := rngsG_at keeps_fit hR hF0.bel hkl
  obtain rfl : r = r' := Option.some.inj (hk.symm.trans e1)
  clear hT hR e1 hk
  have H0 : Hid (LW w ((w.alloc (fabO (some ⟨b, off, none⟩) rl rc ea el ec ta tl tc now)).alloc r.obj) (fabO (some ⟨b, off, none⟩) rl rc ea el ec ta tl tc now) (w.heap.size + 1) r ta tl ts) :=
    ⟨hF0.under (fbelow_new _ _), by have h := heap_alloc_new (w.alloc (fabO (some ⟨b, off, none⟩) rl rc ea el ec ta tl tc now)) r.obj; rwa [World.size_alloc] at h, hf.out.below (fbelow_new _ _), txs_below HT.out (below_tr hF0.bel (fbelow_new _ _))⟩
  clear hF0 hf HT
  have HRR : Hid (ringRightB r.cap r.first r.recs r.curs = true) := fit_right hfit
  have HTX : Hid (∀ (j : Nat) (hj : j < r.recs.length), ∃ (M : Nat) (t : TD), (readRes r.recs[j]).2.1 = (M : Int) + 1 ∧ ts[M]? = some t) := fun j hj => fit_txn hfit hj
  have hF := (right_first HRR.out).1
  clear hfit
  obtain ⟨cap, first, ra', rl', rc', ca', cl', cc', recs, curs⟩ := r
  simp only at g0 g1 g2 g3 hF
  have hrl' : rl' ≤ 1048576 := H0.out.fit.rle
  have HLEN : Hid (recs.length = rl') := H0.out.fit.str.strs.1
  have HE : Hid (∀ w, True → _) := fun w _ => spec_end cap first ra' rl' rc' ca' cl' cc' w hF hrl'
  go_enter Tryz.func59, Tryz.ntmps59
  go_wp2_with fail
  go_loopw [6] (fun i wr => ∃ (j : Nat) (y : Int), j ≤ rl' ∧ i = .int .i64 y ∧ Hid (y = first + (j : Int)) ∧ Hid (noneTo (dataOf ts 1) recs j) ∧ Hid (LW w wr (fabO (some ⟨b, off, none⟩) rl rc ea el ec ta tl tc now) (w.heap.size + 1) ⟨cap, first, ra', rl', rc', ca', cl', cc', recs, curs⟩ ta tl ts)) (fun i _ => (first + (rl' : Int) - intOf i).toNat)
  case atStart => exact ⟨0, first, by omega, rfl, show _ = _ by simp, fun i hi => by omega, H0.out⟩
  case round =>
    obtain ⟨j, y, hj, rfl, hy, hto, hw⟩ := hrel
    clear H0 g0 g1 g2 g3
    have ct := fun o => fb_cell hw.out.box o
    have cf := fun o => fb_cell hw.out.fb.box o
    go_wp2_with fail
    refine (HE.out _ trivial).mono ?_
    rintro x v ⟨rfl, hbv⟩
    have H3 : Hid (LW w v (fabO (some ⟨b, off, none⟩) rl rc ea el ec ta tl tc now) (w.heap.size + 1) ⟨cap, first, ra', rl', rc', ca', cl', cc', recs, curs⟩ ta tl ts) := hw.out.under hbv
    clear hbv ct cf hw
    have ct := fun o => fb_cell H3.out.box o
    have cf := fun o => fb_cell H3.out.fb.box o
    by_cases hlt : j < rl'
    · have hjr : j < recs.length := by rw [HLEN.out]; exact hlt
      obtain ⟨hn1, hn2, hra⟩ := rec_num HRR.out hjr
      obtain ⟨M, t, hM, het⟩ := HTX.out j hjr
      have hD : dataOf ts 1 recs[j] = ((recAt recs j).1 == 1 && t.s == 1) := by rw [dataOf_at hM het, hra]
      rw [← hra] at hM
      have HA : Hid (∀ w, RFit w ra' rl' rc' ca' cl' cc' recs curs → _) := fun w h => spec_lat (cap := cap) (first := first) (ca := ca') (cl := cl') (cc := cc') recs j w h.str (fun s hs => by have := h.sz s hs; unfold maxLen; omega) hlt hrl'
      obtain ⟨n1, hk1⟩ : ∃ x, (recAt recs j).1 = x := ⟨_, rfl⟩
      obtain ⟨n2, hk2⟩ : ∃ x, (recAt recs j).2.1 = x := ⟨_, rfl⟩
      obtain ⟨n3, hk3⟩ : ∃ x, (recAt recs j).2.2.1 = x := ⟨_, rfl⟩
      rw [hk1, hk2, hk3] at HA
      rw [hk2] at hM
      rw [hk1] at hD
      subst hM
      have HDN : Hid ((n1 == 1 && t.s == 1) = false → noneTo (dataOf ts 1) recs (j + 1)) := fun h => noneTo_succ hto.out hjr (hD.trans h)
      have HDY : Hid ((n1 == 1 && t.s == 1) = true → y = stableR ts ⟨cap, first, ra', rl', rc', ca', cl', cc', recs, curs⟩) := fun h => by
        have h1 := noneTo_at hto.out hjr (hD.trans h)
        simp only [stableR, h1]
        exact hy.out
      have hMt : M < tl := by rw [← H3.out.txs.1]; exact (List.getElem?_eq_some_iff.1 het).1
      clear hk1 hk2 hk3 hra hto hjr hD hn1 hn2
      have hji : y < first + (rl' : Int) := by have := hy.out; omega
      have hwj : IntKind.i64.wrap (y + 1) = y + 1 := by have := hy.out; exact twrap_in _ (by omega) (by omega)
      rw [← hy.out] at HA
      have hyn : Hid (y + 1 = first + ((j + 1 : Nat) : Int)) := show _ = _ by have := hy.out; omega
      have HY : Hid (y + 1 ≤ first + (rl' : Int)) := show _ ≤ _ by have := hy.out; omega
      go_wp2_with fail
      refine (HA.out _ H3.out.fit).mono ?_
      rintro x v2 ⟨rfl, hbv⟩
      have H4 : Hid (LW w v2 (fabO (some ⟨b, off, none⟩) rl rc ea el ec ta tl tc now) (w.heap.size + 1) ⟨cap, first, ra', rl', rc', ca', cl', cc', recs, curs⟩ ta tl ts) := H3.out.under hbv
      clear hbv ct cf H3
      have H5 : Hid (LW w (v2.alloc (.cells #[.int .i64 n1, .int .i64 ((M : Int) + 1), .string n3] 110)) (fabO (some ⟨b, off, none⟩) rl rc ea el ec ta tl tc now) (w.heap.size + 1) ⟨cap, first, ra', rl', rc', ca', cl', cc', recs, curs⟩ ta tl ts) := H4.out.under (fbelow_new _ _)
      obtain ⟨b4, off4, t', hta, et, _, _, g2, _, _, _, _⟩ := txsG_at keeps_tfit H5.out.txs (Below.refl _ _) hMt
      obtain rfl : t = t' := Option.some.inj (het.symm.trans et)
      subst hta
      clear et het
      have hWM : IntKind.i64.wrap (M : Int) = (M : Int) := twrap_in _ (by omega) (by omega)
      have hMi : (M : Int) < (tl : Int) := by omega
      have cf := fun o => fb_cell H5.out.fb.box o
      by_cases h1 : n1 = 1
      · have h1' : (n1 == 1) = true := by rw [beq_iff_eq]; exact h1
        by_cases h2 : t.s = 1
        · have h2' : (t.s == 1) = true := by rw [beq_iff_eq]; exact h2
          have HV : Hid (y = stableR ts ⟨cap, first, ra', rl', rc', ca', cl', cc', recs, curs⟩) := HDY.out (by rw [h1', h2']; rfl)
          clear h1 h2 HDN HDY
          go_wp2
          go_ret
          exact ⟨ret_int HV.out, H5.out.fb.bel⟩
        · have h2' : (t.s == 1) = false := by rw [beq_eq_false_iff_ne]; exact h2
          have HV : Hid _ := HDN.out (by rw [h2', Bool.and_false])
          clear h1 h2 HDN HDY
          go_wp2
          exact ⟨⟨j + 1, y + 1, by omega, by go_num, hyn.out, HV.out, H5.out⟩, by simp [intOf]; have := HY.out; omega⟩
      · have h1' : (n1 == 1) = false := by rw [beq_eq_false_iff_ne]; exact h1
        have HV : Hid _ := HDN.out (by rw [h1', Bool.false_and])
        clear h1 HDN HDY
        go_wp2
        exact ⟨⟨j + 1, y + 1, by omega, by go_num, hyn.out, HV.out, H5.out⟩, by simp [intOf]; have := HY.out; omega⟩
    · have HV : Hid (first + (rl' : Int) = stableR ts ⟨cap, first, ra', rl', rc', ca', cl', cc', recs, curs⟩) := show _ = _ by
        have h1 := noneTo_end hto.out (show recs.length ≤ j by rw [HLEN.out]; omega)
        simp only [stableR, h1, HLEN.out]
      have hji : decide (y < first + (rl' : Int)) = false := decide_eq_false (by have := hy.out; omega)
      go_wp2_with fail
      refine (HE.out _ trivial).mono ?_
      rintro x v4 ⟨rfl, hbv⟩
      have HB : Hid (Below w.heap.size w v4) := below_tr H3.out.fb.bel hbv
      clear hbv
      go_wp2
      go_ret
      exact ⟨ret_int HV.out, HB.out⟩
end Go.Proofs.YtdepaeajfldfbaaGreatDoor
/- The specification's hearing: Stable and Counts, whole. -/
namespace Go.Proofs.YtdepaeajfldfbaaGreatDoor
open Go.RowKit
attribute [local go_sem ↓] Go.wp_at_zero Go.wp_at_succ
set_option linter.unusedSimpArgs false
set_option linter.unusedVariables false

set_option maxHeartbeats 2000000 in
theorem spec_stable (ra : Option Addr) (rl rc : Nat) (ea : Option Addr) (el ec : Nat) (ta : Option Addr) (tl tc : Nat) (now : Int) (n : Int) (rs : List RD) (es : List Int) (ts : List TD) (w : World) (hi : FIn w ra rl ea el ta tl rs es ts) :
    Calls Tryz.prog 24 #[fabVal ra rl rc ea el ec ta tl tc now, .int .i64 n] w fun e w' => e = .returned (.int .i64 (if fabRightB rs es ts now && decide (0 ≤ n ∧ n ≤ (rl : Int) - 1) then stableV rs ts n else 0)) ∧ Below w.heap.size w w' := by
  have H0 : Hid (FX w (w.alloc (fabO ra rl rc ea el ec ta tl tc now)) (fabO ra rl rc ea el ec ta tl tc now) ra rl ea el ta tl rs es ts) := ⟨fb_new _ _ _, hi.below (fbelow_new _ _)⟩
  have htl := hi.tle
  have hrl := hi.rle
  have HRL : Hid (rs.length = rl) := hi.rs.1
  clear hi
  obtain ⟨Z, hZ⟩ : ∃ Z : Int, (if fabRightB rs es ts now && decide (0 ≤ n ∧ n ≤ (rl : Int) - 1) then stableV rs ts n else 0) = Z := ⟨_, rfl⟩
  rw [hZ]
  have HZ : Hid ((if fabRightB rs es ts now && decide (0 ≤ n ∧ n ≤ (rl : Int) - 1) then stableV rs ts n else 0) = Z) := hZ
  clear hZ
  go_enter Tryz.func24, Tryz.ntmps24
  go_wp2_with fail
  refine (spec_fabricRight ra rl rc ea el ec ta tl tc now rs es ts _ H0.out.fin).mono ?_
  rintro e v ⟨rfl, hbv⟩
  have H1 : Hid (FX w v (fabO ra rl rc ea el ec ta tl tc now) ra rl ea el ta tl rs es ts) := H0.out.under hbv
  clear hbv H0
  have cf := fun o => fb_cell H1.out.fb.box o
  obtain ⟨F, hF⟩ : ∃ F, fabRightB rs es ts now = F := ⟨_, rfl⟩
  have HF : Hid (fabRightB rs es ts now = F) := hF
  rw [hF] at HZ ⊢
  clear hF
  cases F with
  | false =>
    have hE : Hid (0 = Z) := HZ.out
    clear HZ
    go_wp2
    go_ret
    exact ⟨ret_int hE.out, H1.out.fb.bel⟩
  | true =>
    have HT : Hid _ := fun w => spec_there ra rl rc ea el ec ta tl tc now n w hrl
    obtain ⟨T, hT⟩ : ∃ T, decide (0 ≤ n ∧ n ≤ (rl : Int) - 1) = T := ⟨_, rfl⟩
    have HTD : Hid (decide (0 ≤ n ∧ n ≤ (rl : Int) - 1) = T) := hT
    rw [hT] at HZ HT
    clear hT
    go_wp2_with fail
    refine (HT.out _).mono ?_
    rintro e v2 ⟨rfl, hb2⟩
    have H2 : Hid (FX w v2 (fabO ra rl rc ea el ec ta tl tc now) ra rl ea el ta tl rs es ts) := H1.out.under hb2
    clear hb2 cf H1 HT
    have cf := fun o => fb_cell H2.out.fb.box o
    cases T with
    | false =>
      have hE : Hid (0 = Z) := HZ.out
      clear HZ
      go_wp2
      go_ret
      exact ⟨ret_int hE.out, H2.out.fb.bel⟩
    | true =>
      have hE : Hid (stableV rs ts n = Z) := HZ.out
      have hn := of_decide_eq_true HTD.out
      obtain ⟨k, rfl⟩ : ∃ k : Nat, n = (k : Int) := ⟨n.toNat, by omega⟩
      have hk : k < rs.length := by rw [HRL.out]; omega
      have hV : stableV rs ts (k : Int) = stableR ts rs[k] := by simp [stableV, hk]
      clear HZ HTD hn
      go_wp2_with fail
      refine (spec_lstable ra rl rc ea el ec ta tl tc now rs ts k rs[k] _ H2.out.fin.rs H2.out.fin.ts (by simp [hk]) (right_ring HF.out (by simp [hk])) hrl htl).mono ?_
      rintro e v3 ⟨rfl, hb3⟩
      have HB3 : Hid (Below w.heap.size w v3) := below_tr H2.out.fb.bel hb3
      clear hb3 cf
      rw [← hV, hE.out]
      clear hV
      go_wp2
      go_ret
      exact ⟨ret_int rfl, HB3.out⟩
set_option maxRecDepth 100000 in
set_option maxHeartbeats 2000000 in
theorem spec_lcounts (ra : Option Addr) (rl rc : Nat) (ea : Option Addr) (el ec : Nat) (ta : Option Addr) (tl tc : Nat) (now : Int) (rs : List RD) (ts : List TD) (k j : Nat) (r : RD) (w : World) (hR : Rngs w ra rl rs) (hT : Txs w ta tl ts) (hk : rs[k]? = some r) (hfit : ringFitB ts (k : Int) r = true) (hjr : j < r.recs.length) (hrl : rl ≤ 1048576) (htl : tl ≤ 1048576) :
    Calls Tryz.prog 64 #[fabVal ra rl rc ea el ec ta tl tc now, .int .i64 k, .int .i64 (r.first + (j : Int))] w fun e w' => e = .returned (.bool (dataOf ts 2 r.recs[j])) ∧ Below w.heap.size w w' := by
  have hkl : k < rl := by rw [← hR.1]; exact (List.getElem?_eq_some_iff.1 hk).1
  have HT : Hid (Txs w ta tl ts) := hT
  have HF0 : Hid (FB w (w.alloc (fabO ra rl rc ea el ec ta tl tc now)) (fabO ra rl rc ea el ec ta tl tc now)) := fb_new w #[.slice ra rl rc, .slice ea el ec, .slice ta tl tc, .int .i64 now] 32
  obtain ⟨b, off, r', hra, e1, g0, g1, g2, g3, hf⟩ := rngsG_at keeps_fit hR HF0.out.bel hkl
  obtain rfl : r = r' := Option.some.inj (hk.symm.trans e1)
  subst hra
  have HFT : Hid (r.fit (w.alloc (fabO (some ⟨b, off, none⟩) rl rc ea el ec ta tl tc now))) := hf.out
  have hjl : j < r.rl := by rw [← hf.out.str.strs.1]; exact hjr
  obtain ⟨hn1, hn2, hra⟩ := rec_num (fit_right hfit) hjr
  obtain ⟨M, t, hM, het⟩ := fit_txn hfit hjr
  have hD : dataOf ts 2 r.recs[j] = ((recAt r.recs j).1 == 1 && t.s == 2) := by rw [dataOf_at hM het, hra]
  rw [← hra] at hM
  have HA : Hid (∀ w, r.fit w → _) := fun w h => spec_lat (cap := r.cap) (first := r.first) (ca := r.ca) (cl := r.cl) (cc := r.cc) r.recs j w h.str (fun s hs => by have := h.sz s hs; unfold maxLen; omega) hjl hf.out.rle
  obtain ⟨n1, hk1⟩ : ∃ x, (recAt r.recs j).1 = x := ⟨_, rfl⟩
  obtain ⟨n2, hk2⟩ : ∃ x, (recAt r.recs j).2.1 = x := ⟨_, rfl⟩
  obtain ⟨n3, hk3⟩ : ∃ x, (recAt r.recs j).2.2.1 = x := ⟨_, rfl⟩
  rw [hk1, hk2, hk3] at HA
  rw [hk2] at hM
  rw [hk1] at hD
  subst hM
  have HD : Hid (dataOf ts 2 r.recs[j] = (n1 == 1 && t.s == 2)) := hD
  have hMt : M < tl := by rw [← HT.out.1]; exact (List.getElem?_eq_some_iff.1 het).1
  obtain ⟨Q, hQ⟩ : ∃ Q, dataOf ts 2 r.recs[j] = Q := ⟨_, rfl⟩
  rw [hQ] at HD ⊢
  have HET : Hid (ts[M]? = some t) := het
  clear hT hR e1 hk hf hfit hn1 hn2 hra hk1 hk2 hk3 hD het hQ hjr
  go_enter Tryz.func64, Tryz.ntmps64
  go_wp2_with fail
  refine (HA.out _ HFT.out).mono ?_
  rintro x v ⟨rfl, hbv⟩
  have HB : Hid (Below w.heap.size w (v.alloc (.cells #[.int .i64 n1, .int .i64 ((M : Int) + 1), .string n3] 110))) := below_tr (HF0.out.under hbv).bel (fbelow_new _ _)
  have HFB : Hid (FB w (v.alloc (.cells #[.int .i64 n1, .int .i64 ((M : Int) + 1), .string n3] 110)) (fabO (some ⟨b, off, none⟩) rl rc ea el ec ta tl tc now)) := (HF0.out.under hbv).under (fbelow_new _ _)
  clear hbv HF0 HFT HA g0 g1 g2 g3
  obtain ⟨b4, off4, t', hta, et, _, _, g2, _, _, _, _⟩ := txsG_at keeps_tfit (txs_below HT.out HB.out) (Below.refl _ _) hMt
  obtain rfl : t = t' := Option.some.inj (HET.out.symm.trans et)
  subst hta
  clear et HET HT
  have hWM : IntKind.i64.wrap (M : Int) = (M : Int) := twrap_in _ (by omega) (by omega)
  have hMi : (M : Int) < (tl : Int) := by omega
  have cf := fun o => fb_cell HFB.out.box o
  by_cases h1 : n1 = 1
  · have h1' : (n1 == 1) = true := by rw [beq_iff_eq]; exact h1
    clear h1
    go_wp2
    go_ret
    exact ⟨ret_bool (by rw [HD.out, h1', Bool.true_and]), HB.out⟩
  · have h1' : (n1 == 1) = false := by rw [beq_eq_false_iff_ne]; exact h1
    clear h1
    go_wp2
    go_ret
    exact ⟨ret_bool (by rw [HD.out, h1', Bool.false_and]), HB.out⟩
set_option maxRecDepth 100000 in
set_option maxHeartbeats 4000000 in
theorem spec_counts (ra : Option Addr) (rl rc : Nat) (ea : Option Addr) (el ec : Nat) (ta : Option Addr) (tl tc : Nat) (now : Int) (n a : Int) (rs : List RD) (es : List Int) (ts : List TD) (w : World) (hi : FIn w ra rl ea el ta tl rs es ts) :
    Calls Tryz.prog 26 #[fabVal ra rl rc ea el ec ta tl tc now, .int .i64 n, .int .i64 a] w fun e w' => e = .returned (.bool (fabRightB rs es ts now && decide (0 ≤ n ∧ n ≤ (rl : Int) - 1) && countsV rs ts n a)) ∧ Below w.heap.size w w' := by
  have H0 : Hid (FX w (w.alloc (fabO ra rl rc ea el ec ta tl tc now)) (fabO ra rl rc ea el ec ta tl tc now) ra rl ea el ta tl rs es ts) := ⟨fb_new _ _ _, hi.below (fbelow_new _ _)⟩
  have htl := hi.tle
  have hrl := hi.rle
  have HRL : Hid (rs.length = rl) := hi.rs.1
  clear hi
  obtain ⟨Z, hZ⟩ : ∃ Z : Bool, (fabRightB rs es ts now && decide (0 ≤ n ∧ n ≤ (rl : Int) - 1) && countsV rs ts n a) = Z := ⟨_, rfl⟩
  rw [hZ]
  have HZ : Hid ((fabRightB rs es ts now && decide (0 ≤ n ∧ n ≤ (rl : Int) - 1) && countsV rs ts n a) = Z) := hZ
  clear hZ
  have HFR : Hid _ := fun w h => spec_fabricRight ra rl rc ea el ec ta tl tc now rs es ts w h
  have HT : Hid _ := fun w => spec_there ra rl rc ea el ec ta tl tc now n w hrl
  go_enter Tryz.func26, Tryz.ntmps26
  go_upto_region 1 with fail
  have H1 : Hid (FX w (w.alloc (fabO ra rl rc ea el ec ta tl tc now)).drew (fabO ra rl rc ea el ec ta tl tc now) ra rl ea el ta tl rs es ts) := H0.out.under ((Below.refl _ _).drew)
  clear H0
  obtain ⟨F, hF⟩ : ∃ F, fabRightB rs es ts now = F := ⟨_, rfl⟩
  have HF : Hid (fabRightB rs es ts now = F) := hF
  rw [hF] at HZ HFR
  clear hF
  obtain ⟨T, hT⟩ : ∃ T, decide (0 ≤ n ∧ n ≤ (rl : Int) - 1) = T := ⟨_, rfl⟩
  have HTD : Hid (decide (0 ≤ n ∧ n ≤ (rl : Int) - 1) = T) := hT
  rw [hT] at HZ HT
  clear hT
  cases F with
  | false =>
    have HZ : Hid (false = Z) := HZ.out
    refine wp_region_held_drew (S := (fun x => ∀ o, x.cell? ⟨w.heap.size, o, none⟩ = (#[.slice ra rl rc, .slice ea el ec, .slice ta tl tc, .int .i64 now] : Array Value)[o]?)) (by kernel_rfl) (fun o => fb_cell H1.out.fb.box o) (fun hHeld => ?_)
    refine wpAnyH_take (i := 0) (v := ?_) rfl (by kernel_rfl) (by kernel_rfl) (by kernel_rfl) (fun _ _ _ h => h) (Or.inl ⟨by rfl, ?_⟩) hHeld ?_
    rotate_left
    · intro wy hSw; (try dsimp only at hSw); go_simp; (try with_reducible rfl)
    try simp only [Act.put, List.getElem_toArray, List.getElem_cons_zero, List.getElem_cons_succ, List.setIfInBounds_toArray, List.set_cons_zero, List.set_cons_succ]
    refine wpAnyH_ready (rs := [1]) (by kernel_rfl) (by simp) ?_
    refine AllReadyH.cons rfl (fun K hK => ?_) AllReadyH.nil
    go_simp
    refine (HFR.out _ H1.out.fin).mono ?_; rintro x v1 ⟨rfl, hb1⟩; have H1 : Hid (FX w v1 (fabO ra rl rc ea el ec ta tl tc now) ra rl ea el ta tl rs es ts) := H1.out.under hb1; clear hb1
    go_wp2_with fail
    refine hK.out _ _ ?_ (fun hHeld => ?_)
    · exact fun o => fb_cell H1.out.fb.box o
    clear hK K
    try simp only [Act.put, List.getElem_toArray, List.getElem_cons_zero, List.getElem_cons_succ, List.setIfInBounds_toArray, List.set_cons_zero, List.set_cons_succ]
    refine wpAnyH_take (i := 2) (v := ?_) rfl (by kernel_rfl) (by kernel_rfl) (by kernel_rfl) (fun _ _ _ h => h) (Or.inl ⟨by rfl, ?_⟩) hHeld ?_
    rotate_left
    · intro wy hSw; (try dsimp only at hSw); go_simp; (try with_reducible rfl)
    try simp only [Act.put, List.getElem_toArray, List.getElem_cons_zero, List.getElem_cons_succ, List.setIfInBounds_toArray, List.set_cons_zero, List.set_cons_succ]
    refine wpAnyH_take (i := 3) (v := undef) rfl (by kernel_rfl) (by kernel_rfl) (by kernel_rfl) (fun _ _ _ h => h) (Or.inr ⟨by rfl, rfl⟩) hHeld ?_
    try simp only [Act.put, List.getElem_toArray, List.getElem_cons_zero, List.getElem_cons_succ, List.setIfInBounds_toArray, List.set_cons_zero, List.set_cons_succ]
    refine wpAnyH_take (i := 4) (v := undef) rfl (by kernel_rfl) (by kernel_rfl) (by kernel_rfl) (fun _ _ _ h => h) (Or.inr ⟨by rfl, rfl⟩) hHeld ?_
    try simp only [Act.put, List.getElem_toArray, List.getElem_cons_zero, List.getElem_cons_succ, List.setIfInBounds_toArray, List.set_cons_zero, List.set_cons_succ]
    refine wpAnyH_take (i := 5) (v := undef) rfl (by kernel_rfl) (by kernel_rfl) (by kernel_rfl) (fun _ _ _ h => h) (Or.inr ⟨by rfl, rfl⟩) hHeld ?_
    try simp only [Act.put, List.getElem_toArray, List.getElem_cons_zero, List.getElem_cons_succ, List.setIfInBounds_toArray, List.set_cons_zero, List.set_cons_succ]
    refine wpAnyH_take (i := 6) (v := ?_) rfl (by kernel_rfl) (by kernel_rfl) (by kernel_rfl) (fun _ _ _ h => h) (Or.inl ⟨by rfl, ?_⟩) hHeld ?_
    rotate_left
    · intro wy hSw; (try dsimp only at hSw); go_simp; (try with_reducible rfl)
    try simp only [Act.put, List.getElem_toArray, List.getElem_cons_zero, List.getElem_cons_succ, List.setIfInBounds_toArray, List.set_cons_zero, List.set_cons_succ]
    refine wpAnyH_take (i := 7) (v := ?_) rfl (by kernel_rfl) (by kernel_rfl) (by kernel_rfl) (fun _ _ _ h => h) (Or.inl ⟨by rfl, ?_⟩) hHeld ?_
    rotate_left
    · intro wy hSw; (try dsimp only at hSw); go_simp; (try with_reducible rfl)
    try simp only [Act.put, List.getElem_toArray, List.getElem_cons_zero, List.getElem_cons_succ, List.setIfInBounds_toArray, List.set_cons_zero, List.set_cons_succ]
    refine wpAnyH_take (i := 8) (v := undef) rfl (by kernel_rfl) (by kernel_rfl) (by kernel_rfl) (fun _ _ _ h => h) (Or.inr ⟨by rfl, rfl⟩) hHeld ?_
    try simp only [Act.put, List.getElem_toArray, List.getElem_cons_zero, List.getElem_cons_succ, List.setIfInBounds_toArray, List.set_cons_zero, List.set_cons_succ]
    refine wpAnyH_take (i := 9) (v := undef) rfl (by kernel_rfl) (by kernel_rfl) (by kernel_rfl) (fun _ _ _ h => h) (Or.inr ⟨by rfl, rfl⟩) hHeld ?_
    try simp only [Act.put, List.getElem_toArray, List.getElem_cons_zero, List.getElem_cons_succ, List.setIfInBounds_toArray, List.set_cons_zero, List.set_cons_succ]
    refine wpAnyH_take (i := 10) (v := undef) rfl (by kernel_rfl) (by kernel_rfl) (by kernel_rfl) (fun _ _ _ h => h) (Or.inr ⟨by rfl, rfl⟩) hHeld ?_
    try simp only [Act.put, List.getElem_toArray, List.getElem_cons_zero, List.getElem_cons_succ, List.setIfInBounds_toArray, List.set_cons_zero, List.set_cons_succ]
    refine wpAnyH_take (i := 11) (v := undef) rfl (by kernel_rfl) (by kernel_rfl) (by kernel_rfl) (fun _ _ _ h => h) (Or.inr ⟨by rfl, rfl⟩) hHeld ?_
    try simp only [Act.put, List.getElem_toArray, List.getElem_cons_zero, List.getElem_cons_succ, List.setIfInBounds_toArray, List.set_cons_zero, List.set_cons_succ]
    refine wpAnyH_take (i := 12) (v := undef) rfl (by kernel_rfl) (by kernel_rfl) (by kernel_rfl) (fun _ _ _ h => h) (Or.inr ⟨by rfl, rfl⟩) hHeld ?_
    try simp only [Act.put, List.getElem_toArray, List.getElem_cons_zero, List.getElem_cons_succ, List.setIfInBounds_toArray, List.set_cons_zero, List.set_cons_succ]
    refine wpAnyH_take (i := 13) (v := undef) rfl (by kernel_rfl) (by kernel_rfl) (by kernel_rfl) (fun _ _ _ h => h) (Or.inr ⟨by rfl, rfl⟩) hHeld ?_
    try simp only [Act.put, List.getElem_toArray, List.getElem_cons_zero, List.getElem_cons_succ, List.setIfInBounds_toArray, List.set_cons_zero, List.set_cons_succ]
    refine wpAnyH_take (i := 14) (v := undef) rfl (by kernel_rfl) (by kernel_rfl) (by kernel_rfl) (fun _ _ _ h => h) (Or.inr ⟨by rfl, rfl⟩) hHeld ?_
    try simp only [Act.put, List.getElem_toArray, List.getElem_cons_zero, List.getElem_cons_succ, List.setIfInBounds_toArray, List.set_cons_zero, List.set_cons_succ]
    refine wpAnyH_take (i := 15) (v := undef) rfl (by kernel_rfl) (by kernel_rfl) (by kernel_rfl) (fun _ _ _ h => h) (Or.inr ⟨by rfl, rfl⟩) hHeld ?_
    try simp only [Act.put, List.getElem_toArray, List.getElem_cons_zero, List.getElem_cons_succ, List.setIfInBounds_toArray, List.set_cons_zero, List.set_cons_succ]
    refine wpAnyH_take (i := 16) (v := undef) rfl (by kernel_rfl) (by kernel_rfl) (by kernel_rfl) (fun _ _ _ h => h) (Or.inr ⟨by rfl, rfl⟩) hHeld ?_
    try simp only [Act.put, List.getElem_toArray, List.getElem_cons_zero, List.getElem_cons_succ, List.setIfInBounds_toArray, List.set_cons_zero, List.set_cons_succ]
    refine wpAnyH_take (i := 17) (v := undef) rfl (by kernel_rfl) (by kernel_rfl) (by kernel_rfl) (fun _ _ _ h => h) (Or.inr ⟨by rfl, rfl⟩) hHeld ?_
    try simp only [Act.put, List.getElem_toArray, List.getElem_cons_zero, List.getElem_cons_succ, List.setIfInBounds_toArray, List.set_cons_zero, List.set_cons_succ]
    refine wpAnyH_take (i := 18) (v := undef) rfl (by kernel_rfl) (by kernel_rfl) (by kernel_rfl) (fun _ _ _ h => h) (Or.inr ⟨by rfl, rfl⟩) hHeld ?_
    try simp only [Act.put, List.getElem_toArray, List.getElem_cons_zero, List.getElem_cons_succ, List.setIfInBounds_toArray, List.set_cons_zero, List.set_cons_succ]
    refine wpAnyH_take (i := 19) (v := undef) rfl (by kernel_rfl) (by kernel_rfl) (by kernel_rfl) (fun _ _ _ h => h) (Or.inr ⟨by rfl, rfl⟩) hHeld ?_
    try simp only [Act.put, List.getElem_toArray, List.getElem_cons_zero, List.getElem_cons_succ, List.setIfInBounds_toArray, List.set_cons_zero, List.set_cons_succ]
    refine wpAnyH_take (i := 20) (v := undef) rfl (by kernel_rfl) (by kernel_rfl) (by kernel_rfl) (fun _ _ _ h => h) (Or.inr ⟨by rfl, rfl⟩) hHeld ?_
    try simp only [Act.put, List.getElem_toArray, List.getElem_cons_zero, List.getElem_cons_succ, List.setIfInBounds_toArray, List.set_cons_zero, List.set_cons_succ]
    refine wpAnyH_take (i := 21) (v := undef) rfl (by kernel_rfl) (by kernel_rfl) (by kernel_rfl) (fun _ _ _ h => h) (Or.inr ⟨by rfl, rfl⟩) hHeld ?_
    try simp only [Act.put, List.getElem_toArray, List.getElem_cons_zero, List.getElem_cons_succ, List.setIfInBounds_toArray, List.set_cons_zero, List.set_cons_succ]
    refine wpAnyH_take (i := 22) (v := undef) rfl (by kernel_rfl) (by kernel_rfl) (by kernel_rfl) (fun _ _ _ h => h) (Or.inr ⟨by rfl, rfl⟩) hHeld ?_
    try simp only [Act.put, List.getElem_toArray, List.getElem_cons_zero, List.getElem_cons_succ, List.setIfInBounds_toArray, List.set_cons_zero, List.set_cons_succ]
    refine wpAnyH_take (i := 23) (v := ?_) rfl (by kernel_rfl) (by kernel_rfl) (by kernel_rfl) (fun _ _ _ h => h) (Or.inl ⟨by rfl, ?_⟩) hHeld ?_
    rotate_left
    · intro wy hSw; (try dsimp only at hSw); go_simp; (try with_reducible rfl)
    try simp only [Act.put, List.getElem_toArray, List.getElem_cons_zero, List.getElem_cons_succ, List.setIfInBounds_toArray, List.set_cons_zero, List.set_cons_succ]
    refine wpAnyH_take (i := 24) (v := ?_) rfl (by kernel_rfl) (by kernel_rfl) (by kernel_rfl) (fun _ _ _ h => h) (Or.inl ⟨by rfl, ?_⟩) hHeld ?_
    rotate_left
    · intro wy hSw; (try dsimp only at hSw); go_simp; (try with_reducible rfl)
    try simp only [Act.put, List.getElem_toArray, List.getElem_cons_zero, List.getElem_cons_succ, List.setIfInBounds_toArray, List.set_cons_zero, List.set_cons_succ]
    refine wpAnyH_take (i := 25) (v := undef) rfl (by kernel_rfl) (by kernel_rfl) (by kernel_rfl) (fun _ _ _ h => h) (Or.inr ⟨by rfl, rfl⟩) hHeld ?_
    try simp only [Act.put, List.getElem_toArray, List.getElem_cons_zero, List.getElem_cons_succ, List.setIfInBounds_toArray, List.set_cons_zero, List.set_cons_succ]
    refine wpAnyH_take (i := 26) (v := undef) rfl (by kernel_rfl) (by kernel_rfl) (by kernel_rfl) (fun _ _ _ h => h) (Or.inr ⟨by rfl, rfl⟩) hHeld ?_
    try simp only [Act.put, List.getElem_toArray, List.getElem_cons_zero, List.getElem_cons_succ, List.setIfInBounds_toArray, List.set_cons_zero, List.set_cons_succ]
    refine wpAnyH_take (i := 27) (v := undef) rfl (by kernel_rfl) (by kernel_rfl) (by kernel_rfl) (fun _ _ _ h => h) (Or.inr ⟨by rfl, rfl⟩) hHeld ?_
    try simp only [Act.put, List.getElem_toArray, List.getElem_cons_zero, List.getElem_cons_succ, List.setIfInBounds_toArray, List.set_cons_zero, List.set_cons_succ]
    refine wpAnyH_take (i := 28) (v := undef) rfl (by kernel_rfl) (by kernel_rfl) (by kernel_rfl) (fun _ _ _ h => h) (Or.inr ⟨by rfl, rfl⟩) hHeld ?_
    try simp only [Act.put, List.getElem_toArray, List.getElem_cons_zero, List.getElem_cons_succ, List.setIfInBounds_toArray, List.set_cons_zero, List.set_cons_succ]
    refine wpAnyH_take (i := 29) (v := ?_) rfl (by kernel_rfl) (by kernel_rfl) (by kernel_rfl) (fun _ _ _ h => h) (Or.inl ⟨by rfl, ?_⟩) hHeld ?_
    rotate_left
    · intro wy hSw; (try dsimp only at hSw); go_simp; (try with_reducible rfl)
    try simp only [Act.put, List.getElem_toArray, List.getElem_cons_zero, List.getElem_cons_succ, List.setIfInBounds_toArray, List.set_cons_zero, List.set_cons_succ]
    refine wpAnyH_take (i := 30) (v := ?_) rfl (by kernel_rfl) (by kernel_rfl) (by kernel_rfl) (fun _ _ _ h => h) (Or.inl ⟨by rfl, ?_⟩) hHeld ?_
    rotate_left
    · intro wy hSw; (try dsimp only at hSw); go_simp; (try with_reducible rfl)
    try simp only [Act.put, List.getElem_toArray, List.getElem_cons_zero, List.getElem_cons_succ, List.setIfInBounds_toArray, List.set_cons_zero, List.set_cons_succ]
    refine wpAnyH_done (by kernel_rfl) ?_ _
    go_wp2
    go_ret
    exact ⟨ret_bool HZ.out, H1.out.fb.bel⟩
  | true =>
  cases T with
  | false =>
    have HZ : Hid (false = Z) := HZ.out
    refine wp_region_held_drew (S := (fun x => ∀ o, x.cell? ⟨w.heap.size, o, none⟩ = (#[.slice ra rl rc, .slice ea el ec, .slice ta tl tc, .int .i64 now] : Array Value)[o]?)) (by kernel_rfl) (fun o => fb_cell H1.out.fb.box o) (fun hHeld => ?_)
    refine wpAnyH_take (i := 0) (v := ?_) rfl (by kernel_rfl) (by kernel_rfl) (by kernel_rfl) (fun _ _ _ h => h) (Or.inl ⟨by rfl, ?_⟩) hHeld ?_
    rotate_left
    · intro wy hSw; (try dsimp only at hSw); go_simp; (try with_reducible rfl)
    try simp only [Act.put, List.getElem_toArray, List.getElem_cons_zero, List.getElem_cons_succ, List.setIfInBounds_toArray, List.set_cons_zero, List.set_cons_succ]
    refine wpAnyH_ready (rs := [1]) (by kernel_rfl) (by simp) ?_
    refine AllReadyH.cons rfl (fun K hK => ?_) AllReadyH.nil
    go_simp
    refine (HFR.out _ H1.out.fin).mono ?_; rintro x v1 ⟨rfl, hb1⟩; have H1 : Hid (FX w v1 (fabO ra rl rc ea el ec ta tl tc now) ra rl ea el ta tl rs es ts) := H1.out.under hb1; clear hb1
    go_wp2_with fail
    refine hK.out _ _ ?_ (fun hHeld => ?_)
    · exact fun o => fb_cell H1.out.fb.box o
    clear hK K
    try simp only [Act.put, List.getElem_toArray, List.getElem_cons_zero, List.getElem_cons_succ, List.setIfInBounds_toArray, List.set_cons_zero, List.set_cons_succ]
    refine wpAnyH_take (i := 2) (v := ?_) rfl (by kernel_rfl) (by kernel_rfl) (by kernel_rfl) (fun _ _ _ h => h) (Or.inl ⟨by rfl, ?_⟩) hHeld ?_
    rotate_left
    · intro wy hSw; (try dsimp only at hSw); go_simp; (try with_reducible rfl)
    try simp only [Act.put, List.getElem_toArray, List.getElem_cons_zero, List.getElem_cons_succ, List.setIfInBounds_toArray, List.set_cons_zero, List.set_cons_succ]
    refine wpAnyH_take (i := 3) (v := ?_) rfl (by kernel_rfl) (by kernel_rfl) (by kernel_rfl) (fun _ _ _ h => h) (Or.inl ⟨by rfl, ?_⟩) hHeld ?_
    rotate_left
    · intro wy hSw; (try dsimp only at hSw); go_simp; (try with_reducible rfl)
    try simp only [Act.put, List.getElem_toArray, List.getElem_cons_zero, List.getElem_cons_succ, List.setIfInBounds_toArray, List.set_cons_zero, List.set_cons_succ]
    refine wpAnyH_take (i := 4) (v := ?_) rfl (by kernel_rfl) (by kernel_rfl) (by kernel_rfl) (fun _ _ _ h => h) (Or.inl ⟨by rfl, ?_⟩) hHeld ?_
    rotate_left
    · intro wy hSw; (try dsimp only at hSw); go_simp; (try with_reducible rfl)
    try simp only [Act.put, List.getElem_toArray, List.getElem_cons_zero, List.getElem_cons_succ, List.setIfInBounds_toArray, List.set_cons_zero, List.set_cons_succ]
    refine wpAnyH_ready (rs := [5]) (by kernel_rfl) (by simp) ?_
    refine AllReadyH.cons rfl (fun K hK => ?_) AllReadyH.nil
    go_simp
    refine (HT.out _).mono ?_; rintro x v2 ⟨rfl, hb2⟩; have H1 : Hid (FX w v2 (fabO ra rl rc ea el ec ta tl tc now) ra rl ea el ta tl rs es ts) := H1.out.under hb2; clear hb2
    go_wp2_with fail
    refine hK.out _ _ ?_ (fun hHeld => ?_)
    · exact fun o => fb_cell H1.out.fb.box o
    clear hK K
    try simp only [Act.put, List.getElem_toArray, List.getElem_cons_zero, List.getElem_cons_succ, List.setIfInBounds_toArray, List.set_cons_zero, List.set_cons_succ]
    refine wpAnyH_take (i := 6) (v := ?_) rfl (by kernel_rfl) (by kernel_rfl) (by kernel_rfl) (fun _ _ _ h => h) (Or.inl ⟨by rfl, ?_⟩) hHeld ?_
    rotate_left
    · intro wy hSw; (try dsimp only at hSw); go_simp; (try with_reducible rfl)
    try simp only [Act.put, List.getElem_toArray, List.getElem_cons_zero, List.getElem_cons_succ, List.setIfInBounds_toArray, List.set_cons_zero, List.set_cons_succ]
    refine wpAnyH_take (i := 7) (v := ?_) rfl (by kernel_rfl) (by kernel_rfl) (by kernel_rfl) (fun _ _ _ h => h) (Or.inl ⟨by rfl, ?_⟩) hHeld ?_
    rotate_left
    · intro wy hSw; (try dsimp only at hSw); go_simp; (try with_reducible rfl)
    try simp only [Act.put, List.getElem_toArray, List.getElem_cons_zero, List.getElem_cons_succ, List.setIfInBounds_toArray, List.set_cons_zero, List.set_cons_succ]
    refine wpAnyH_take (i := 8) (v := undef) rfl (by kernel_rfl) (by kernel_rfl) (by kernel_rfl) (fun _ _ _ h => h) (Or.inr ⟨by rfl, rfl⟩) hHeld ?_
    try simp only [Act.put, List.getElem_toArray, List.getElem_cons_zero, List.getElem_cons_succ, List.setIfInBounds_toArray, List.set_cons_zero, List.set_cons_succ]
    refine wpAnyH_take (i := 9) (v := undef) rfl (by kernel_rfl) (by kernel_rfl) (by kernel_rfl) (fun _ _ _ h => h) (Or.inr ⟨by rfl, rfl⟩) hHeld ?_
    try simp only [Act.put, List.getElem_toArray, List.getElem_cons_zero, List.getElem_cons_succ, List.setIfInBounds_toArray, List.set_cons_zero, List.set_cons_succ]
    refine wpAnyH_take (i := 10) (v := undef) rfl (by kernel_rfl) (by kernel_rfl) (by kernel_rfl) (fun _ _ _ h => h) (Or.inr ⟨by rfl, rfl⟩) hHeld ?_
    try simp only [Act.put, List.getElem_toArray, List.getElem_cons_zero, List.getElem_cons_succ, List.setIfInBounds_toArray, List.set_cons_zero, List.set_cons_succ]
    refine wpAnyH_take (i := 11) (v := undef) rfl (by kernel_rfl) (by kernel_rfl) (by kernel_rfl) (fun _ _ _ h => h) (Or.inr ⟨by rfl, rfl⟩) hHeld ?_
    try simp only [Act.put, List.getElem_toArray, List.getElem_cons_zero, List.getElem_cons_succ, List.setIfInBounds_toArray, List.set_cons_zero, List.set_cons_succ]
    refine wpAnyH_take (i := 12) (v := undef) rfl (by kernel_rfl) (by kernel_rfl) (by kernel_rfl) (fun _ _ _ h => h) (Or.inr ⟨by rfl, rfl⟩) hHeld ?_
    try simp only [Act.put, List.getElem_toArray, List.getElem_cons_zero, List.getElem_cons_succ, List.setIfInBounds_toArray, List.set_cons_zero, List.set_cons_succ]
    refine wpAnyH_take (i := 13) (v := undef) rfl (by kernel_rfl) (by kernel_rfl) (by kernel_rfl) (fun _ _ _ h => h) (Or.inr ⟨by rfl, rfl⟩) hHeld ?_
    try simp only [Act.put, List.getElem_toArray, List.getElem_cons_zero, List.getElem_cons_succ, List.setIfInBounds_toArray, List.set_cons_zero, List.set_cons_succ]
    refine wpAnyH_take (i := 14) (v := undef) rfl (by kernel_rfl) (by kernel_rfl) (by kernel_rfl) (fun _ _ _ h => h) (Or.inr ⟨by rfl, rfl⟩) hHeld ?_
    try simp only [Act.put, List.getElem_toArray, List.getElem_cons_zero, List.getElem_cons_succ, List.setIfInBounds_toArray, List.set_cons_zero, List.set_cons_succ]
    refine wpAnyH_take (i := 15) (v := undef) rfl (by kernel_rfl) (by kernel_rfl) (by kernel_rfl) (fun _ _ _ h => h) (Or.inr ⟨by rfl, rfl⟩) hHeld ?_
    try simp only [Act.put, List.getElem_toArray, List.getElem_cons_zero, List.getElem_cons_succ, List.setIfInBounds_toArray, List.set_cons_zero, List.set_cons_succ]
    refine wpAnyH_take (i := 16) (v := undef) rfl (by kernel_rfl) (by kernel_rfl) (by kernel_rfl) (fun _ _ _ h => h) (Or.inr ⟨by rfl, rfl⟩) hHeld ?_
    try simp only [Act.put, List.getElem_toArray, List.getElem_cons_zero, List.getElem_cons_succ, List.setIfInBounds_toArray, List.set_cons_zero, List.set_cons_succ]
    refine wpAnyH_take (i := 17) (v := undef) rfl (by kernel_rfl) (by kernel_rfl) (by kernel_rfl) (fun _ _ _ h => h) (Or.inr ⟨by rfl, rfl⟩) hHeld ?_
    try simp only [Act.put, List.getElem_toArray, List.getElem_cons_zero, List.getElem_cons_succ, List.setIfInBounds_toArray, List.set_cons_zero, List.set_cons_succ]
    refine wpAnyH_take (i := 18) (v := undef) rfl (by kernel_rfl) (by kernel_rfl) (by kernel_rfl) (fun _ _ _ h => h) (Or.inr ⟨by rfl, rfl⟩) hHeld ?_
    try simp only [Act.put, List.getElem_toArray, List.getElem_cons_zero, List.getElem_cons_succ, List.setIfInBounds_toArray, List.set_cons_zero, List.set_cons_succ]
    refine wpAnyH_take (i := 19) (v := undef) rfl (by kernel_rfl) (by kernel_rfl) (by kernel_rfl) (fun _ _ _ h => h) (Or.inr ⟨by rfl, rfl⟩) hHeld ?_
    try simp only [Act.put, List.getElem_toArray, List.getElem_cons_zero, List.getElem_cons_succ, List.setIfInBounds_toArray, List.set_cons_zero, List.set_cons_succ]
    refine wpAnyH_take (i := 20) (v := undef) rfl (by kernel_rfl) (by kernel_rfl) (by kernel_rfl) (fun _ _ _ h => h) (Or.inr ⟨by rfl, rfl⟩) hHeld ?_
    try simp only [Act.put, List.getElem_toArray, List.getElem_cons_zero, List.getElem_cons_succ, List.setIfInBounds_toArray, List.set_cons_zero, List.set_cons_succ]
    refine wpAnyH_take (i := 21) (v := undef) rfl (by kernel_rfl) (by kernel_rfl) (by kernel_rfl) (fun _ _ _ h => h) (Or.inr ⟨by rfl, rfl⟩) hHeld ?_
    try simp only [Act.put, List.getElem_toArray, List.getElem_cons_zero, List.getElem_cons_succ, List.setIfInBounds_toArray, List.set_cons_zero, List.set_cons_succ]
    refine wpAnyH_take (i := 22) (v := undef) rfl (by kernel_rfl) (by kernel_rfl) (by kernel_rfl) (fun _ _ _ h => h) (Or.inr ⟨by rfl, rfl⟩) hHeld ?_
    try simp only [Act.put, List.getElem_toArray, List.getElem_cons_zero, List.getElem_cons_succ, List.setIfInBounds_toArray, List.set_cons_zero, List.set_cons_succ]
    refine wpAnyH_take (i := 23) (v := ?_) rfl (by kernel_rfl) (by kernel_rfl) (by kernel_rfl) (fun _ _ _ h => h) (Or.inl ⟨by rfl, ?_⟩) hHeld ?_
    rotate_left
    · intro wy hSw; (try dsimp only at hSw); go_simp; (try with_reducible rfl)
    try simp only [Act.put, List.getElem_toArray, List.getElem_cons_zero, List.getElem_cons_succ, List.setIfInBounds_toArray, List.set_cons_zero, List.set_cons_succ]
    refine wpAnyH_take (i := 24) (v := ?_) rfl (by kernel_rfl) (by kernel_rfl) (by kernel_rfl) (fun _ _ _ h => h) (Or.inl ⟨by rfl, ?_⟩) hHeld ?_
    rotate_left
    · intro wy hSw; (try dsimp only at hSw); go_simp; (try with_reducible rfl)
    try simp only [Act.put, List.getElem_toArray, List.getElem_cons_zero, List.getElem_cons_succ, List.setIfInBounds_toArray, List.set_cons_zero, List.set_cons_succ]
    refine wpAnyH_take (i := 25) (v := undef) rfl (by kernel_rfl) (by kernel_rfl) (by kernel_rfl) (fun _ _ _ h => h) (Or.inr ⟨by rfl, rfl⟩) hHeld ?_
    try simp only [Act.put, List.getElem_toArray, List.getElem_cons_zero, List.getElem_cons_succ, List.setIfInBounds_toArray, List.set_cons_zero, List.set_cons_succ]
    refine wpAnyH_take (i := 26) (v := undef) rfl (by kernel_rfl) (by kernel_rfl) (by kernel_rfl) (fun _ _ _ h => h) (Or.inr ⟨by rfl, rfl⟩) hHeld ?_
    try simp only [Act.put, List.getElem_toArray, List.getElem_cons_zero, List.getElem_cons_succ, List.setIfInBounds_toArray, List.set_cons_zero, List.set_cons_succ]
    refine wpAnyH_take (i := 27) (v := undef) rfl (by kernel_rfl) (by kernel_rfl) (by kernel_rfl) (fun _ _ _ h => h) (Or.inr ⟨by rfl, rfl⟩) hHeld ?_
    try simp only [Act.put, List.getElem_toArray, List.getElem_cons_zero, List.getElem_cons_succ, List.setIfInBounds_toArray, List.set_cons_zero, List.set_cons_succ]
    refine wpAnyH_take (i := 28) (v := undef) rfl (by kernel_rfl) (by kernel_rfl) (by kernel_rfl) (fun _ _ _ h => h) (Or.inr ⟨by rfl, rfl⟩) hHeld ?_
    try simp only [Act.put, List.getElem_toArray, List.getElem_cons_zero, List.getElem_cons_succ, List.setIfInBounds_toArray, List.set_cons_zero, List.set_cons_succ]
    refine wpAnyH_take (i := 29) (v := ?_) rfl (by kernel_rfl) (by kernel_rfl) (by kernel_rfl) (fun _ _ _ h => h) (Or.inl ⟨by rfl, ?_⟩) hHeld ?_
    rotate_left
    · intro wy hSw; (try dsimp only at hSw); go_simp; (try with_reducible rfl)
    try simp only [Act.put, List.getElem_toArray, List.getElem_cons_zero, List.getElem_cons_succ, List.setIfInBounds_toArray, List.set_cons_zero, List.set_cons_succ]
    refine wpAnyH_take (i := 30) (v := ?_) rfl (by kernel_rfl) (by kernel_rfl) (by kernel_rfl) (fun _ _ _ h => h) (Or.inl ⟨by rfl, ?_⟩) hHeld ?_
    rotate_left
    · intro wy hSw; (try dsimp only at hSw); go_simp; (try with_reducible rfl)
    try simp only [Act.put, List.getElem_toArray, List.getElem_cons_zero, List.getElem_cons_succ, List.setIfInBounds_toArray, List.set_cons_zero, List.set_cons_succ]
    refine wpAnyH_done (by kernel_rfl) ?_ _
    go_wp2
    go_ret
    exact ⟨ret_bool HZ.out, H1.out.fb.bel⟩
  | true =>
  have hn := of_decide_eq_true HTD.out
  obtain ⟨k, rfl⟩ : ∃ k : Nat, n = (k : Int) := ⟨n.toNat, by omega⟩
  have hk : k < rs.length := by rw [HRL.out]; omega
  have hkl : k < rl := by omega
  have HFIT : Hid (ringFitB ts (k : Int) rs[k] = true) := right_ring HF.out (by simp [hk])
  have hV : countsV rs ts (k : Int) a = countsR ts rs[k] a := by simp [countsV, hk]
  have HKR : Hid (rs[k]? = some rs[k]) := show _ = _ by simp [hk]
  obtain ⟨r, hr⟩ : ∃ r, rs[k] = r := ⟨_, rfl⟩
  rw [hr] at HFIT hV HKR
  have HZ : Hid (countsR ts r a = Z) := show _ = _ by have h := HZ.out; rw [hV] at h; simpa using h
  have HFST : Hid (0 ≤ r.first ∧ r.first ≤ 1000000) := (right_first (fit_right HFIT.out)).1
  obtain ⟨b, off, r', hra, e1, g0, g1, g2, g3, hf⟩ := rngsG_at keeps_fit H1.out.fin.rs (Below.refl _ _) hkl
  obtain rfl : r = r' := Option.some.inj (HKR.out.symm.trans e1)
  have hlen : r.recs.length = r.rl := hf.out.str.strs.1
  have hrle : r.rl ≤ 1048576 := hf.out.rle
  subst hra
  have HG : Hid (∀ x, FIn x (some ⟨b, off, none⟩) rl ea el ta tl rs es ts → x.cell? ⟨b, off + k * 4, none⟩ = some (.int .i64 r.cap) ∧ x.cell? ⟨b, off + k * 4 + 1, none⟩ = some (.int .i64 r.first) ∧ x.cell? ⟨b, off + k * 4 + 2, none⟩ = some (.slice r.ra r.rl r.rc) ∧ x.cell? ⟨b, off + k * 4 + 3, none⟩ = some (.slice r.ca r.cl r.cc)) := fun x hx => by
    obtain ⟨b', off', r', hra, e1, g0, g1, g2, g3, _⟩ := rngsG_at keeps_fit hx.rs (Below.refl _ _) hkl
    cases hra
    obtain rfl : r = r' := Option.some.inj (HKR.out.symm.trans e1)
    exact ⟨g0, g1, g2, g3⟩
  have HLC : Hid _ := fun (j : Nat) (hj : j < r.recs.length) w h1 h2 => spec_lcounts (some ⟨b, off, none⟩) rl rc ea el ec ta tl tc now rs ts k j r w h1 h2 HKR.out HFIT.out hj hrl htl
  obtain ⟨cap, first, ra', rl', rc', ca', cl', cc', recs, curs⟩ := r
  simp only at g0 g1 g2 g3 hlen hrle
  have hfs := HFST.out
  simp only at hfs
  have HE : Hid _ := fun w => spec_end cap first ra' rl' rc' ca' cl' cc' w hfs hrle
  have HI : Hid _ := fun w => tspec_is a first (first + (rl' : Int) - 1) w
  have hwe : IntKind.i64.wrap (first + (rl' : Int) - 1) = first + (rl' : Int) - 1 := twrap_in _ (by omega) (by omega)
  have hki : (k : Int) < (rl : Int) := by omega
  clear hV hr e1 hn hf g0 g1 g2 g3 HTD hk HFST
  obtain ⟨I, hI⟩ : ∃ I, decide (first ≤ a ∧ a ≤ first + (rl' : Int) - 1) = I := ⟨_, rfl⟩
  have HID : Hid (decide (first ≤ a ∧ a ≤ first + (rl' : Int) - 1) = I) := hI
  rw [hI] at HI
  clear hI
  cases I with
  | false =>
    have HZ : Hid (false = Z) := show _ = _ by have h := HZ.out; simp only [countsR, hlen] at h; rw [HID.out, Bool.false_and] at h; exact h
    refine wp_region_held_drew (S := (fun x => (∀ o, x.cell? ⟨w.heap.size, o, none⟩ = (#[.slice (some ⟨b, off, none⟩) rl rc, .slice ea el ec, .slice ta tl tc, .int .i64 now] : Array Value)[o]?) ∧ x.cell? ⟨b, off + k * 4, none⟩ = some (.int .i64 cap) ∧ x.cell? ⟨b, off + k * 4 + 1, none⟩ = some (.int .i64 first) ∧ x.cell? ⟨b, off + k * 4 + 2, none⟩ = some (.slice ra' rl' rc') ∧ x.cell? ⟨b, off + k * 4 + 3, none⟩ = some (.slice ca' cl' cc'))) (by kernel_rfl) (⟨fun o => fb_cell H1.out.fb.box o, HG.out _ H1.out.fin⟩) (fun hHeld => ?_)
    refine wpAnyH_take (i := 0) (v := ?_) rfl (by kernel_rfl) (by kernel_rfl) (by kernel_rfl) (fun _ _ _ h => h) (Or.inl ⟨by rfl, ?_⟩) hHeld ?_
    rotate_left
    · intro wy hSw; (try dsimp only at hSw); go_simp; (try with_reducible rfl)
    try simp only [Act.put, List.getElem_toArray, List.getElem_cons_zero, List.getElem_cons_succ, List.setIfInBounds_toArray, List.set_cons_zero, List.set_cons_succ]
    refine wpAnyH_ready (rs := [1]) (by kernel_rfl) (by simp) ?_
    refine AllReadyH.cons rfl (fun K hK => ?_) AllReadyH.nil
    go_simp
    refine (HFR.out _ H1.out.fin).mono ?_; rintro x v1 ⟨rfl, hb1⟩; have H1 : Hid (FX w v1 (fabO (some ⟨b, off, none⟩) rl rc ea el ec ta tl tc now) (some ⟨b, off, none⟩) rl ea el ta tl rs es ts) := H1.out.under hb1; clear hb1
    go_wp2_with fail
    refine hK.out _ _ ?_ (fun hHeld => ?_)
    · exact ⟨fun o => fb_cell H1.out.fb.box o, HG.out _ H1.out.fin⟩
    clear hK K
    try simp only [Act.put, List.getElem_toArray, List.getElem_cons_zero, List.getElem_cons_succ, List.setIfInBounds_toArray, List.set_cons_zero, List.set_cons_succ]
    refine wpAnyH_take (i := 2) (v := ?_) rfl (by kernel_rfl) (by kernel_rfl) (by kernel_rfl) (fun _ _ _ h => h) (Or.inl ⟨by rfl, ?_⟩) hHeld ?_
    rotate_left
    · intro wy hSw; (try dsimp only at hSw); go_simp; (try with_reducible rfl)
    try simp only [Act.put, List.getElem_toArray, List.getElem_cons_zero, List.getElem_cons_succ, List.setIfInBounds_toArray, List.set_cons_zero, List.set_cons_succ]
    refine wpAnyH_take (i := 3) (v := ?_) rfl (by kernel_rfl) (by kernel_rfl) (by kernel_rfl) (fun _ _ _ h => h) (Or.inl ⟨by rfl, ?_⟩) hHeld ?_
    rotate_left
    · intro wy hSw; (try dsimp only at hSw); go_simp; (try with_reducible rfl)
    try simp only [Act.put, List.getElem_toArray, List.getElem_cons_zero, List.getElem_cons_succ, List.setIfInBounds_toArray, List.set_cons_zero, List.set_cons_succ]
    refine wpAnyH_take (i := 4) (v := ?_) rfl (by kernel_rfl) (by kernel_rfl) (by kernel_rfl) (fun _ _ _ h => h) (Or.inl ⟨by rfl, ?_⟩) hHeld ?_
    rotate_left
    · intro wy hSw; (try dsimp only at hSw); go_simp; (try with_reducible rfl)
    try simp only [Act.put, List.getElem_toArray, List.getElem_cons_zero, List.getElem_cons_succ, List.setIfInBounds_toArray, List.set_cons_zero, List.set_cons_succ]
    refine wpAnyH_ready (rs := [5]) (by kernel_rfl) (by simp) ?_
    refine AllReadyH.cons rfl (fun K hK => ?_) AllReadyH.nil
    go_simp
    refine (HT.out _).mono ?_; rintro x v2 ⟨rfl, hb2⟩; have H1 : Hid (FX w v2 (fabO (some ⟨b, off, none⟩) rl rc ea el ec ta tl tc now) (some ⟨b, off, none⟩) rl ea el ta tl rs es ts) := H1.out.under hb2; clear hb2
    go_wp2_with fail
    refine hK.out _ _ ?_ (fun hHeld => ?_)
    · exact ⟨fun o => fb_cell H1.out.fb.box o, HG.out _ H1.out.fin⟩
    clear hK K
    try simp only [Act.put, List.getElem_toArray, List.getElem_cons_zero, List.getElem_cons_succ, List.setIfInBounds_toArray, List.set_cons_zero, List.set_cons_succ]
    refine wpAnyH_take (i := 6) (v := ?_) rfl (by kernel_rfl) (by kernel_rfl) (by kernel_rfl) (fun _ _ _ h => h) (Or.inl ⟨by rfl, ?_⟩) hHeld ?_
    rotate_left
    · intro wy hSw; (try dsimp only at hSw); go_simp; (try with_reducible rfl)
    try simp only [Act.put, List.getElem_toArray, List.getElem_cons_zero, List.getElem_cons_succ, List.setIfInBounds_toArray, List.set_cons_zero, List.set_cons_succ]
    refine wpAnyH_take (i := 7) (v := ?_) rfl (by kernel_rfl) (by kernel_rfl) (by kernel_rfl) (fun _ _ _ h => h) (Or.inl ⟨by rfl, ?_⟩) hHeld ?_
    rotate_left
    · intro wy hSw; (try dsimp only at hSw); go_simp; (try with_reducible rfl)
    try simp only [Act.put, List.getElem_toArray, List.getElem_cons_zero, List.getElem_cons_succ, List.setIfInBounds_toArray, List.set_cons_zero, List.set_cons_succ]
    refine wpAnyH_take (i := 8) (v := ?_) rfl (by kernel_rfl) (by kernel_rfl) (by kernel_rfl) (fun _ _ _ h => h) (Or.inl ⟨by rfl, ?_⟩) hHeld ?_
    rotate_left
    · intro wy hSw; (try dsimp only at hSw); go_simp; (try with_reducible rfl)
    try simp only [Act.put, List.getElem_toArray, List.getElem_cons_zero, List.getElem_cons_succ, List.setIfInBounds_toArray, List.set_cons_zero, List.set_cons_succ]
    refine wpAnyH_take (i := 9) (v := ?_) rfl (by kernel_rfl) (by kernel_rfl) (by kernel_rfl) (fun _ _ _ h => h) (Or.inl ⟨by rfl, ?_⟩) hHeld ?_
    rotate_left
    · intro wy hSw; (try dsimp only at hSw); go_simp; (try with_reducible rfl)
    try simp only [Act.put, List.getElem_toArray, List.getElem_cons_zero, List.getElem_cons_succ, List.setIfInBounds_toArray, List.set_cons_zero, List.set_cons_succ]
    refine wpAnyH_take (i := 10) (v := ?_) rfl (by kernel_rfl) (by kernel_rfl) (by kernel_rfl) (fun _ _ _ h => h) (Or.inl ⟨by rfl, ?_⟩) hHeld ?_
    rotate_left
    · intro wy hSw; (try dsimp only at hSw); go_simp; (try with_reducible rfl)
    try simp only [Act.put, List.getElem_toArray, List.getElem_cons_zero, List.getElem_cons_succ, List.setIfInBounds_toArray, List.set_cons_zero, List.set_cons_succ]
    refine wpAnyH_take (i := 11) (v := ?_) rfl (by kernel_rfl) (by kernel_rfl) (by kernel_rfl) (fun _ _ _ h => h) (Or.inl ⟨by rfl, ?_⟩) hHeld ?_
    rotate_left
    · intro wy hSw; (try dsimp only at hSw); go_simp; (try with_reducible rfl)
    try simp only [Act.put, List.getElem_toArray, List.getElem_cons_zero, List.getElem_cons_succ, List.setIfInBounds_toArray, List.set_cons_zero, List.set_cons_succ]
    refine wpAnyH_take (i := 12) (v := ?_) rfl (by kernel_rfl) (by kernel_rfl) (by kernel_rfl) (fun _ _ _ h => h) (Or.inl ⟨by rfl, ?_⟩) hHeld ?_
    rotate_left
    · intro wy hSw; (try dsimp only at hSw); go_simp; (try with_reducible rfl)
    try simp only [Act.put, List.getElem_toArray, List.getElem_cons_zero, List.getElem_cons_succ, List.setIfInBounds_toArray, List.set_cons_zero, List.set_cons_succ]
    refine wpAnyH_take (i := 13) (v := ?_) rfl (by kernel_rfl) (by kernel_rfl) (by kernel_rfl) (fun _ _ _ h => h) (Or.inl ⟨by rfl, ?_⟩) hHeld ?_
    rotate_left
    · intro wy hSw; (try dsimp only at hSw); go_simp; (try with_reducible rfl)
    try simp only [Act.put, List.getElem_toArray, List.getElem_cons_zero, List.getElem_cons_succ, List.setIfInBounds_toArray, List.set_cons_zero, List.set_cons_succ]
    refine wpAnyH_take (i := 14) (v := ?_) rfl (by kernel_rfl) (by kernel_rfl) (by kernel_rfl) (fun _ _ _ h => h) (Or.inl ⟨by rfl, ?_⟩) hHeld ?_
    rotate_left
    · intro wy hSw; (try dsimp only at hSw); go_simp; (try with_reducible rfl)
    try simp only [Act.put, List.getElem_toArray, List.getElem_cons_zero, List.getElem_cons_succ, List.setIfInBounds_toArray, List.set_cons_zero, List.set_cons_succ]
    refine wpAnyH_take (i := 15) (v := ?_) rfl (by kernel_rfl) (by kernel_rfl) (by kernel_rfl) (fun _ _ _ h => h) (Or.inl ⟨by rfl, ?_⟩) hHeld ?_
    rotate_left
    · intro wy hSw; (try dsimp only at hSw); go_simp; (try with_reducible rfl)
    try simp only [Act.put, List.getElem_toArray, List.getElem_cons_zero, List.getElem_cons_succ, List.setIfInBounds_toArray, List.set_cons_zero, List.set_cons_succ]
    refine wpAnyH_take (i := 16) (v := ?_) rfl (by kernel_rfl) (by kernel_rfl) (by kernel_rfl) (fun _ _ _ h => h) (Or.inl ⟨by rfl, ?_⟩) hHeld ?_
    rotate_left
    · intro wy hSw; (try dsimp only at hSw); go_simp; (try with_reducible rfl)
    try simp only [Act.put, List.getElem_toArray, List.getElem_cons_zero, List.getElem_cons_succ, List.setIfInBounds_toArray, List.set_cons_zero, List.set_cons_succ]
    refine wpAnyH_take (i := 17) (v := ?_) rfl (by kernel_rfl) (by kernel_rfl) (by kernel_rfl) (fun _ _ _ h => h) (Or.inl ⟨by rfl, ?_⟩) hHeld ?_
    rotate_left
    · intro wy hSw; (try dsimp only at hSw); go_simp; (try with_reducible rfl)
    try simp only [Act.put, List.getElem_toArray, List.getElem_cons_zero, List.getElem_cons_succ, List.setIfInBounds_toArray, List.set_cons_zero, List.set_cons_succ]
    refine wpAnyH_take (i := 18) (v := ?_) rfl (by kernel_rfl) (by kernel_rfl) (by kernel_rfl) (fun _ _ _ h => h) (Or.inl ⟨by rfl, ?_⟩) hHeld ?_
    rotate_left
    · intro wy hSw; (try dsimp only at hSw); go_simp; (try with_reducible rfl)
    try simp only [Act.put, List.getElem_toArray, List.getElem_cons_zero, List.getElem_cons_succ, List.setIfInBounds_toArray, List.set_cons_zero, List.set_cons_succ]
    refine wpAnyH_take (i := 19) (v := ?_) rfl (by kernel_rfl) (by kernel_rfl) (by kernel_rfl) (fun _ _ _ h => h) (Or.inl ⟨by rfl, ?_⟩) hHeld ?_
    rotate_left
    · intro wy hSw; (try dsimp only at hSw); go_simp; (try with_reducible rfl)
    try simp only [Act.put, List.getElem_toArray, List.getElem_cons_zero, List.getElem_cons_succ, List.setIfInBounds_toArray, List.set_cons_zero, List.set_cons_succ]
    refine wpAnyH_ready (rs := [20]) (by kernel_rfl) (by simp) ?_
    refine AllReadyH.cons rfl (fun K hK => ?_) AllReadyH.nil
    go_simp
    refine (HE.out _).mono ?_; rintro x v3 ⟨rfl, hb3⟩; have H1 : Hid (FX w v3 (fabO (some ⟨b, off, none⟩) rl rc ea el ec ta tl tc now) (some ⟨b, off, none⟩) rl ea el ta tl rs es ts) := H1.out.under hb3; clear hb3
    go_wp2_with fail
    refine hK.out _ _ ?_ (fun hHeld => ?_)
    · exact ⟨fun o => fb_cell H1.out.fb.box o, HG.out _ H1.out.fin⟩
    clear hK K
    try simp only [Act.put, List.getElem_toArray, List.getElem_cons_zero, List.getElem_cons_succ, List.setIfInBounds_toArray, List.set_cons_zero, List.set_cons_succ]
    refine wpAnyH_take (i := 21) (v := ?_) rfl (by kernel_rfl) (by kernel_rfl) (by kernel_rfl) (fun _ _ _ h => h) (Or.inl ⟨by rfl, ?_⟩) hHeld ?_
    rotate_left
    · intro wy hSw; (try dsimp only at hSw); go_simp; (try with_reducible rfl)
    try simp only [Act.put, List.getElem_toArray, List.getElem_cons_zero, List.getElem_cons_succ, List.setIfInBounds_toArray, List.set_cons_zero, List.set_cons_succ]
    refine wpAnyH_ready (rs := [22]) (by kernel_rfl) (by simp) ?_
    refine AllReadyH.cons rfl (fun K hK => ?_) AllReadyH.nil
    go_simp
    refine (HI.out _).mono ?_; rintro x v4 ⟨rfl, hb4⟩; rw [hb4]; clear hb4 v4
    go_wp2_with fail
    refine hK.out _ _ ?_ (fun hHeld => ?_)
    · exact ⟨fun o => fb_cell H1.out.fb.box o, HG.out _ H1.out.fin⟩
    clear hK K
    try simp only [Act.put, List.getElem_toArray, List.getElem_cons_zero, List.getElem_cons_succ, List.setIfInBounds_toArray, List.set_cons_zero, List.set_cons_succ]
    refine wpAnyH_take (i := 23) (v := ?_) rfl (by kernel_rfl) (by kernel_rfl) (by kernel_rfl) (fun _ _ _ h => h) (Or.inl ⟨by rfl, ?_⟩) hHeld ?_
    rotate_left
    · intro wy hSw; (try dsimp only at hSw); go_simp; (try with_reducible rfl)
    try simp only [Act.put, List.getElem_toArray, List.getElem_cons_zero, List.getElem_cons_succ, List.setIfInBounds_toArray, List.set_cons_zero, List.set_cons_succ]
    refine wpAnyH_take (i := 24) (v := ?_) rfl (by kernel_rfl) (by kernel_rfl) (by kernel_rfl) (fun _ _ _ h => h) (Or.inl ⟨by rfl, ?_⟩) hHeld ?_
    rotate_left
    · intro wy hSw; (try dsimp only at hSw); go_simp; (try with_reducible rfl)
    try simp only [Act.put, List.getElem_toArray, List.getElem_cons_zero, List.getElem_cons_succ, List.setIfInBounds_toArray, List.set_cons_zero, List.set_cons_succ]
    refine wpAnyH_take (i := 25) (v := undef) rfl (by kernel_rfl) (by kernel_rfl) (by kernel_rfl) (fun _ _ _ h => h) (Or.inr ⟨by rfl, rfl⟩) hHeld ?_
    try simp only [Act.put, List.getElem_toArray, List.getElem_cons_zero, List.getElem_cons_succ, List.setIfInBounds_toArray, List.set_cons_zero, List.set_cons_succ]
    refine wpAnyH_take (i := 26) (v := undef) rfl (by kernel_rfl) (by kernel_rfl) (by kernel_rfl) (fun _ _ _ h => h) (Or.inr ⟨by rfl, rfl⟩) hHeld ?_
    try simp only [Act.put, List.getElem_toArray, List.getElem_cons_zero, List.getElem_cons_succ, List.setIfInBounds_toArray, List.set_cons_zero, List.set_cons_succ]
    refine wpAnyH_take (i := 27) (v := undef) rfl (by kernel_rfl) (by kernel_rfl) (by kernel_rfl) (fun _ _ _ h => h) (Or.inr ⟨by rfl, rfl⟩) hHeld ?_
    try simp only [Act.put, List.getElem_toArray, List.getElem_cons_zero, List.getElem_cons_succ, List.setIfInBounds_toArray, List.set_cons_zero, List.set_cons_succ]
    refine wpAnyH_take (i := 28) (v := undef) rfl (by kernel_rfl) (by kernel_rfl) (by kernel_rfl) (fun _ _ _ h => h) (Or.inr ⟨by rfl, rfl⟩) hHeld ?_
    try simp only [Act.put, List.getElem_toArray, List.getElem_cons_zero, List.getElem_cons_succ, List.setIfInBounds_toArray, List.set_cons_zero, List.set_cons_succ]
    refine wpAnyH_take (i := 29) (v := ?_) rfl (by kernel_rfl) (by kernel_rfl) (by kernel_rfl) (fun _ _ _ h => h) (Or.inl ⟨by rfl, ?_⟩) hHeld ?_
    rotate_left
    · intro wy hSw; (try dsimp only at hSw); go_simp; (try with_reducible rfl)
    try simp only [Act.put, List.getElem_toArray, List.getElem_cons_zero, List.getElem_cons_succ, List.setIfInBounds_toArray, List.set_cons_zero, List.set_cons_succ]
    refine wpAnyH_take (i := 30) (v := ?_) rfl (by kernel_rfl) (by kernel_rfl) (by kernel_rfl) (fun _ _ _ h => h) (Or.inl ⟨by rfl, ?_⟩) hHeld ?_
    rotate_left
    · intro wy hSw; (try dsimp only at hSw); go_simp; (try with_reducible rfl)
    try simp only [Act.put, List.getElem_toArray, List.getElem_cons_zero, List.getElem_cons_succ, List.setIfInBounds_toArray, List.set_cons_zero, List.set_cons_succ]
    refine wpAnyH_done (by kernel_rfl) ?_ _
    go_wp2
    go_ret
    exact ⟨ret_bool HZ.out, H1.out.fb.bel⟩
  | true =>
    have hI := of_decide_eq_true HID.out
    obtain ⟨j, rfl⟩ : ∃ j : Nat, a = first + (j : Int) := ⟨(a - first).toNat, by omega⟩
    have hj : j < recs.length := by omega
    have HLC : Hid _ := HLC.out j hj
    have HZ : Hid (dataOf ts 2 recs[j] = Z) := show _ = _ by
      have h := HZ.out
      simp only [countsR, hlen] at h
      rw [HID.out, Bool.true_and, show (first + (j : Int) - first).toNat = j by omega, List.getElem?_eq_getElem hj] at h
      exact h
    clear hI HID
    refine wp_region_held_drew (S := (fun x => (∀ o, x.cell? ⟨w.heap.size, o, none⟩ = (#[.slice (some ⟨b, off, none⟩) rl rc, .slice ea el ec, .slice ta tl tc, .int .i64 now] : Array Value)[o]?) ∧ x.cell? ⟨b, off + k * 4, none⟩ = some (.int .i64 cap) ∧ x.cell? ⟨b, off + k * 4 + 1, none⟩ = some (.int .i64 first) ∧ x.cell? ⟨b, off + k * 4 + 2, none⟩ = some (.slice ra' rl' rc') ∧ x.cell? ⟨b, off + k * 4 + 3, none⟩ = some (.slice ca' cl' cc'))) (by kernel_rfl) (⟨fun o => fb_cell H1.out.fb.box o, HG.out _ H1.out.fin⟩) (fun hHeld => ?_)
    refine wpAnyH_take (i := 0) (v := ?_) rfl (by kernel_rfl) (by kernel_rfl) (by kernel_rfl) (fun _ _ _ h => h) (Or.inl ⟨by rfl, ?_⟩) hHeld ?_
    rotate_left
    · intro wy hSw; (try dsimp only at hSw); go_simp; (try with_reducible rfl)
    try simp only [Act.put, List.getElem_toArray, List.getElem_cons_zero, List.getElem_cons_succ, List.setIfInBounds_toArray, List.set_cons_zero, List.set_cons_succ]
    refine wpAnyH_ready (rs := [1]) (by kernel_rfl) (by simp) ?_
    refine AllReadyH.cons rfl (fun K hK => ?_) AllReadyH.nil
    go_simp
    refine (HFR.out _ H1.out.fin).mono ?_; rintro x v1 ⟨rfl, hb1⟩; have H1 : Hid (FX w v1 (fabO (some ⟨b, off, none⟩) rl rc ea el ec ta tl tc now) (some ⟨b, off, none⟩) rl ea el ta tl rs es ts) := H1.out.under hb1; clear hb1
    go_wp2_with fail
    refine hK.out _ _ ?_ (fun hHeld => ?_)
    · exact ⟨fun o => fb_cell H1.out.fb.box o, HG.out _ H1.out.fin⟩
    clear hK K
    try simp only [Act.put, List.getElem_toArray, List.getElem_cons_zero, List.getElem_cons_succ, List.setIfInBounds_toArray, List.set_cons_zero, List.set_cons_succ]
    refine wpAnyH_take (i := 2) (v := ?_) rfl (by kernel_rfl) (by kernel_rfl) (by kernel_rfl) (fun _ _ _ h => h) (Or.inl ⟨by rfl, ?_⟩) hHeld ?_
    rotate_left
    · intro wy hSw; (try dsimp only at hSw); go_simp; (try with_reducible rfl)
    try simp only [Act.put, List.getElem_toArray, List.getElem_cons_zero, List.getElem_cons_succ, List.setIfInBounds_toArray, List.set_cons_zero, List.set_cons_succ]
    refine wpAnyH_take (i := 3) (v := ?_) rfl (by kernel_rfl) (by kernel_rfl) (by kernel_rfl) (fun _ _ _ h => h) (Or.inl ⟨by rfl, ?_⟩) hHeld ?_
    rotate_left
    · intro wy hSw; (try dsimp only at hSw); go_simp; (try with_reducible rfl)
    try simp only [Act.put, List.getElem_toArray, List.getElem_cons_zero, List.getElem_cons_succ, List.setIfInBounds_toArray, List.set_cons_zero, List.set_cons_succ]
    refine wpAnyH_take (i := 4) (v := ?_) rfl (by kernel_rfl) (by kernel_rfl) (by kernel_rfl) (fun _ _ _ h => h) (Or.inl ⟨by rfl, ?_⟩) hHeld ?_
    rotate_left
    · intro wy hSw; (try dsimp only at hSw); go_simp; (try with_reducible rfl)
    try simp only [Act.put, List.getElem_toArray, List.getElem_cons_zero, List.getElem_cons_succ, List.setIfInBounds_toArray, List.set_cons_zero, List.set_cons_succ]
    refine wpAnyH_ready (rs := [5]) (by kernel_rfl) (by simp) ?_
    refine AllReadyH.cons rfl (fun K hK => ?_) AllReadyH.nil
    go_simp
    refine (HT.out _).mono ?_; rintro x v2 ⟨rfl, hb2⟩; have H1 : Hid (FX w v2 (fabO (some ⟨b, off, none⟩) rl rc ea el ec ta tl tc now) (some ⟨b, off, none⟩) rl ea el ta tl rs es ts) := H1.out.under hb2; clear hb2
    go_wp2_with fail
    refine hK.out _ _ ?_ (fun hHeld => ?_)
    · exact ⟨fun o => fb_cell H1.out.fb.box o, HG.out _ H1.out.fin⟩
    clear hK K
    try simp only [Act.put, List.getElem_toArray, List.getElem_cons_zero, List.getElem_cons_succ, List.setIfInBounds_toArray, List.set_cons_zero, List.set_cons_succ]
    refine wpAnyH_take (i := 6) (v := ?_) rfl (by kernel_rfl) (by kernel_rfl) (by kernel_rfl) (fun _ _ _ h => h) (Or.inl ⟨by rfl, ?_⟩) hHeld ?_
    rotate_left
    · intro wy hSw; (try dsimp only at hSw); go_simp; (try with_reducible rfl)
    try simp only [Act.put, List.getElem_toArray, List.getElem_cons_zero, List.getElem_cons_succ, List.setIfInBounds_toArray, List.set_cons_zero, List.set_cons_succ]
    refine wpAnyH_take (i := 7) (v := ?_) rfl (by kernel_rfl) (by kernel_rfl) (by kernel_rfl) (fun _ _ _ h => h) (Or.inl ⟨by rfl, ?_⟩) hHeld ?_
    rotate_left
    · intro wy hSw; (try dsimp only at hSw); go_simp; (try with_reducible rfl)
    try simp only [Act.put, List.getElem_toArray, List.getElem_cons_zero, List.getElem_cons_succ, List.setIfInBounds_toArray, List.set_cons_zero, List.set_cons_succ]
    refine wpAnyH_take (i := 8) (v := ?_) rfl (by kernel_rfl) (by kernel_rfl) (by kernel_rfl) (fun _ _ _ h => h) (Or.inl ⟨by rfl, ?_⟩) hHeld ?_
    rotate_left
    · intro wy hSw; (try dsimp only at hSw); go_simp; (try with_reducible rfl)
    try simp only [Act.put, List.getElem_toArray, List.getElem_cons_zero, List.getElem_cons_succ, List.setIfInBounds_toArray, List.set_cons_zero, List.set_cons_succ]
    refine wpAnyH_take (i := 9) (v := ?_) rfl (by kernel_rfl) (by kernel_rfl) (by kernel_rfl) (fun _ _ _ h => h) (Or.inl ⟨by rfl, ?_⟩) hHeld ?_
    rotate_left
    · intro wy hSw; (try dsimp only at hSw); go_simp; (try with_reducible rfl)
    try simp only [Act.put, List.getElem_toArray, List.getElem_cons_zero, List.getElem_cons_succ, List.setIfInBounds_toArray, List.set_cons_zero, List.set_cons_succ]
    refine wpAnyH_take (i := 10) (v := ?_) rfl (by kernel_rfl) (by kernel_rfl) (by kernel_rfl) (fun _ _ _ h => h) (Or.inl ⟨by rfl, ?_⟩) hHeld ?_
    rotate_left
    · intro wy hSw; (try dsimp only at hSw); go_simp; (try with_reducible rfl)
    try simp only [Act.put, List.getElem_toArray, List.getElem_cons_zero, List.getElem_cons_succ, List.setIfInBounds_toArray, List.set_cons_zero, List.set_cons_succ]
    refine wpAnyH_take (i := 11) (v := ?_) rfl (by kernel_rfl) (by kernel_rfl) (by kernel_rfl) (fun _ _ _ h => h) (Or.inl ⟨by rfl, ?_⟩) hHeld ?_
    rotate_left
    · intro wy hSw; (try dsimp only at hSw); go_simp; (try with_reducible rfl)
    try simp only [Act.put, List.getElem_toArray, List.getElem_cons_zero, List.getElem_cons_succ, List.setIfInBounds_toArray, List.set_cons_zero, List.set_cons_succ]
    refine wpAnyH_take (i := 12) (v := ?_) rfl (by kernel_rfl) (by kernel_rfl) (by kernel_rfl) (fun _ _ _ h => h) (Or.inl ⟨by rfl, ?_⟩) hHeld ?_
    rotate_left
    · intro wy hSw; (try dsimp only at hSw); go_simp; (try with_reducible rfl)
    try simp only [Act.put, List.getElem_toArray, List.getElem_cons_zero, List.getElem_cons_succ, List.setIfInBounds_toArray, List.set_cons_zero, List.set_cons_succ]
    refine wpAnyH_take (i := 13) (v := ?_) rfl (by kernel_rfl) (by kernel_rfl) (by kernel_rfl) (fun _ _ _ h => h) (Or.inl ⟨by rfl, ?_⟩) hHeld ?_
    rotate_left
    · intro wy hSw; (try dsimp only at hSw); go_simp; (try with_reducible rfl)
    try simp only [Act.put, List.getElem_toArray, List.getElem_cons_zero, List.getElem_cons_succ, List.setIfInBounds_toArray, List.set_cons_zero, List.set_cons_succ]
    refine wpAnyH_take (i := 14) (v := ?_) rfl (by kernel_rfl) (by kernel_rfl) (by kernel_rfl) (fun _ _ _ h => h) (Or.inl ⟨by rfl, ?_⟩) hHeld ?_
    rotate_left
    · intro wy hSw; (try dsimp only at hSw); go_simp; (try with_reducible rfl)
    try simp only [Act.put, List.getElem_toArray, List.getElem_cons_zero, List.getElem_cons_succ, List.setIfInBounds_toArray, List.set_cons_zero, List.set_cons_succ]
    refine wpAnyH_take (i := 15) (v := ?_) rfl (by kernel_rfl) (by kernel_rfl) (by kernel_rfl) (fun _ _ _ h => h) (Or.inl ⟨by rfl, ?_⟩) hHeld ?_
    rotate_left
    · intro wy hSw; (try dsimp only at hSw); go_simp; (try with_reducible rfl)
    try simp only [Act.put, List.getElem_toArray, List.getElem_cons_zero, List.getElem_cons_succ, List.setIfInBounds_toArray, List.set_cons_zero, List.set_cons_succ]
    refine wpAnyH_take (i := 16) (v := ?_) rfl (by kernel_rfl) (by kernel_rfl) (by kernel_rfl) (fun _ _ _ h => h) (Or.inl ⟨by rfl, ?_⟩) hHeld ?_
    rotate_left
    · intro wy hSw; (try dsimp only at hSw); go_simp; (try with_reducible rfl)
    try simp only [Act.put, List.getElem_toArray, List.getElem_cons_zero, List.getElem_cons_succ, List.setIfInBounds_toArray, List.set_cons_zero, List.set_cons_succ]
    refine wpAnyH_take (i := 17) (v := ?_) rfl (by kernel_rfl) (by kernel_rfl) (by kernel_rfl) (fun _ _ _ h => h) (Or.inl ⟨by rfl, ?_⟩) hHeld ?_
    rotate_left
    · intro wy hSw; (try dsimp only at hSw); go_simp; (try with_reducible rfl)
    try simp only [Act.put, List.getElem_toArray, List.getElem_cons_zero, List.getElem_cons_succ, List.setIfInBounds_toArray, List.set_cons_zero, List.set_cons_succ]
    refine wpAnyH_take (i := 18) (v := ?_) rfl (by kernel_rfl) (by kernel_rfl) (by kernel_rfl) (fun _ _ _ h => h) (Or.inl ⟨by rfl, ?_⟩) hHeld ?_
    rotate_left
    · intro wy hSw; (try dsimp only at hSw); go_simp; (try with_reducible rfl)
    try simp only [Act.put, List.getElem_toArray, List.getElem_cons_zero, List.getElem_cons_succ, List.setIfInBounds_toArray, List.set_cons_zero, List.set_cons_succ]
    refine wpAnyH_take (i := 19) (v := ?_) rfl (by kernel_rfl) (by kernel_rfl) (by kernel_rfl) (fun _ _ _ h => h) (Or.inl ⟨by rfl, ?_⟩) hHeld ?_
    rotate_left
    · intro wy hSw; (try dsimp only at hSw); go_simp; (try with_reducible rfl)
    try simp only [Act.put, List.getElem_toArray, List.getElem_cons_zero, List.getElem_cons_succ, List.setIfInBounds_toArray, List.set_cons_zero, List.set_cons_succ]
    refine wpAnyH_ready (rs := [20]) (by kernel_rfl) (by simp) ?_
    refine AllReadyH.cons rfl (fun K hK => ?_) AllReadyH.nil
    go_simp
    refine (HE.out _).mono ?_; rintro x v3 ⟨rfl, hb3⟩; have H1 : Hid (FX w v3 (fabO (some ⟨b, off, none⟩) rl rc ea el ec ta tl tc now) (some ⟨b, off, none⟩) rl ea el ta tl rs es ts) := H1.out.under hb3; clear hb3
    go_wp2_with fail
    refine hK.out _ _ ?_ (fun hHeld => ?_)
    · exact ⟨fun o => fb_cell H1.out.fb.box o, HG.out _ H1.out.fin⟩
    clear hK K
    try simp only [Act.put, List.getElem_toArray, List.getElem_cons_zero, List.getElem_cons_succ, List.setIfInBounds_toArray, List.set_cons_zero, List.set_cons_succ]
    refine wpAnyH_take (i := 21) (v := ?_) rfl (by kernel_rfl) (by kernel_rfl) (by kernel_rfl) (fun _ _ _ h => h) (Or.inl ⟨by rfl, ?_⟩) hHeld ?_
    rotate_left
    · intro wy hSw; (try dsimp only at hSw); go_simp; (try with_reducible rfl)
    try simp only [Act.put, List.getElem_toArray, List.getElem_cons_zero, List.getElem_cons_succ, List.setIfInBounds_toArray, List.set_cons_zero, List.set_cons_succ]
    refine wpAnyH_ready (rs := [22]) (by kernel_rfl) (by simp) ?_
    refine AllReadyH.cons rfl (fun K hK => ?_) AllReadyH.nil
    go_simp
    refine (HI.out _).mono ?_; rintro x v4 ⟨rfl, hb4⟩; rw [hb4]; clear hb4 v4
    go_wp2_with fail
    refine hK.out _ _ ?_ (fun hHeld => ?_)
    · exact ⟨fun o => fb_cell H1.out.fb.box o, HG.out _ H1.out.fin⟩
    clear hK K
    try simp only [Act.put, List.getElem_toArray, List.getElem_cons_zero, List.getElem_cons_succ, List.setIfInBounds_toArray, List.set_cons_zero, List.set_cons_succ]
    refine wpAnyH_take (i := 23) (v := ?_) rfl (by kernel_rfl) (by kernel_rfl) (by kernel_rfl) (fun _ _ _ h => h) (Or.inl ⟨by rfl, ?_⟩) hHeld ?_
    rotate_left
    · intro wy hSw; (try dsimp only at hSw); go_simp; (try with_reducible rfl)
    try simp only [Act.put, List.getElem_toArray, List.getElem_cons_zero, List.getElem_cons_succ, List.setIfInBounds_toArray, List.set_cons_zero, List.set_cons_succ]
    refine wpAnyH_take (i := 24) (v := ?_) rfl (by kernel_rfl) (by kernel_rfl) (by kernel_rfl) (fun _ _ _ h => h) (Or.inl ⟨by rfl, ?_⟩) hHeld ?_
    rotate_left
    · intro wy hSw; (try dsimp only at hSw); go_simp; (try with_reducible rfl)
    try simp only [Act.put, List.getElem_toArray, List.getElem_cons_zero, List.getElem_cons_succ, List.setIfInBounds_toArray, List.set_cons_zero, List.set_cons_succ]
    refine wpAnyH_take (i := 25) (v := ?_) rfl (by kernel_rfl) (by kernel_rfl) (by kernel_rfl) (fun _ _ _ h => h) (Or.inl ⟨by rfl, ?_⟩) hHeld ?_
    rotate_left
    · intro wy hSw; (try dsimp only at hSw); go_simp; (try with_reducible rfl)
    try simp only [Act.put, List.getElem_toArray, List.getElem_cons_zero, List.getElem_cons_succ, List.setIfInBounds_toArray, List.set_cons_zero, List.set_cons_succ]
    refine wpAnyH_take (i := 26) (v := ?_) rfl (by kernel_rfl) (by kernel_rfl) (by kernel_rfl) (fun _ _ _ h => h) (Or.inl ⟨by rfl, ?_⟩) hHeld ?_
    rotate_left
    · intro wy hSw; (try dsimp only at hSw); go_simp; (try with_reducible rfl)
    try simp only [Act.put, List.getElem_toArray, List.getElem_cons_zero, List.getElem_cons_succ, List.setIfInBounds_toArray, List.set_cons_zero, List.set_cons_succ]
    refine wpAnyH_take (i := 27) (v := ?_) rfl (by kernel_rfl) (by kernel_rfl) (by kernel_rfl) (fun _ _ _ h => h) (Or.inl ⟨by rfl, ?_⟩) hHeld ?_
    rotate_left
    · intro wy hSw; (try dsimp only at hSw); go_simp; (try with_reducible rfl)
    try simp only [Act.put, List.getElem_toArray, List.getElem_cons_zero, List.getElem_cons_succ, List.setIfInBounds_toArray, List.set_cons_zero, List.set_cons_succ]
    refine wpAnyH_ready (rs := [28]) (by kernel_rfl) (by simp) ?_
    refine AllReadyH.cons rfl (fun K hK => ?_) AllReadyH.nil
    go_simp
    refine (HLC.out _ H1.out.fin.rs H1.out.fin.ts).mono ?_; rintro x v5 ⟨rfl, hb5⟩; have H1 : Hid (FX w v5 (fabO (some ⟨b, off, none⟩) rl rc ea el ec ta tl tc now) (some ⟨b, off, none⟩) rl ea el ta tl rs es ts) := H1.out.under hb5; clear hb5
    go_wp2_with fail
    refine hK.out _ _ ?_ (fun hHeld => ?_)
    · exact ⟨fun o => fb_cell H1.out.fb.box o, HG.out _ H1.out.fin⟩
    clear hK K
    try simp only [Act.put, List.getElem_toArray, List.getElem_cons_zero, List.getElem_cons_succ, List.setIfInBounds_toArray, List.set_cons_zero, List.set_cons_succ]
    refine wpAnyH_take (i := 29) (v := ?_) rfl (by kernel_rfl) (by kernel_rfl) (by kernel_rfl) (fun _ _ _ h => h) (Or.inl ⟨by rfl, ?_⟩) hHeld ?_
    rotate_left
    · intro wy hSw; (try dsimp only at hSw); go_simp; (try with_reducible rfl)
    try simp only [Act.put, List.getElem_toArray, List.getElem_cons_zero, List.getElem_cons_succ, List.setIfInBounds_toArray, List.set_cons_zero, List.set_cons_succ]
    refine wpAnyH_take (i := 30) (v := ?_) rfl (by kernel_rfl) (by kernel_rfl) (by kernel_rfl) (fun _ _ _ h => h) (Or.inl ⟨by rfl, ?_⟩) hHeld ?_
    rotate_left
    · intro wy hSw; (try dsimp only at hSw); go_simp; (try with_reducible rfl)
    try simp only [Act.put, List.getElem_toArray, List.getElem_cons_zero, List.getElem_cons_succ, List.setIfInBounds_toArray, List.set_cons_zero, List.set_cons_succ]
    refine wpAnyH_done (by kernel_rfl) ?_ _
    go_wp2
    go_ret
    exact ⟨ret_bool HZ.out, H1.out.fb.bel⟩
end Go.Proofs.YtdepaeajfldfbaaGreatDoor
