/- The program's hearing: a ring as those who hear it see it. -/
import Derived.Test.YtdepaeajfldfbaaGreatDoorSpecHear2
import Derived.Test.YtdepaeajfldfbaaGreatDoorFabDoors
import Derived.Deep.RegionHeld3
import Derived.Deep.DrawnRows
namespace Go.Proofs.YtdepaeajfldfbaaGreatDoor
open Go.RowKit
attribute [local go_sem ↓] Go.wp_at_zero Go.wp_at_succ
set_option linter.unusedSimpArgs false
set_option linter.unusedVariables false

abbrev hearC (r : RD) (ta : Option Addr) (tl tc : Nat) : Array Value := #[.int .i64 r.cap, .int .i64 r.first, .slice r.ra r.rl r.rc, .slice r.ca r.cl r.cc, .slice ta tl tc]
abbrev hearV (r : RD) (ta : Option Addr) (tl tc : Nat) : Value := .agg (hearC r ta tl tc)
abbrev hearO (r : RD) (ta : Option Addr) (tl tc : Nat) : Obj := .cells (hearC r ta tl tc) 92 (0, 0)
section
variable (ta : Option Addr) (tl tc : Nat)
set_option maxRecDepth 100000 in
set_option maxHeartbeats 1000000 in
theorem impl_hend (r : RD) (w : World) (h : 0 ≤ r.first ∧ r.first ≤ 1000000) (hl : r.rl ≤ 1048576) :
    Calls Tryz.prog 99 #[hearV r ta tl tc] w fun x w' => x = .returned (.int .i64 (r.first + (r.rl : Int))) ∧ Below w.heap.size w w' := by
  obtain ⟨cap, first, ra, rl, rc, ca, cl, cc, recs, curs⟩ := r
  simp only at h hl
  go_enter Tryz.func99, Tryz.ntmps99
  go_wp2_with fail
  refine (impl_atWork (cap := cap) (first := first) (ra := ra) (rl := rl) (rc := rc) (ca := ca) (cl := cl) (cc := cc) _).mono ?_
  rintro x v ⟨rfl, hbv, hwk, hsz⟩
  have HB : Hid (Below w.heap.size w v) := below_tr (fbelow_new _ _) hbv
  obtain ⟨X, hX⟩ : ∃ X, (w.alloc (hearO ⟨cap, first, ra, rl, rc, ca, cl, cc, recs, curs⟩ ta tl tc)).heap.size + 1 = X := ⟨_, rfl⟩
  have HK : Hid (Work v X cap first ra rl rc ca cl cc 0 0 0) := hX ▸ hwk
  rw [hX]
  clear hX hbv hwk hsz
  go_wp2_with fail
  refine (impl_end X 0 0 0 v HK.out h hl).mono ?_
  rintro x v2 ⟨rfl, hb2⟩
  have HB2 : Hid (Below w.heap.size w v2) := below_tr HB.out hb2
  clear hb2 HK HB
  go_wp2
  go_ret
  exact ⟨rfl, HB2.out⟩
set_option maxRecDepth 100000 in
set_option maxHeartbeats 1000000 in
theorem impl_hrecAt (r : RD) (j : Nat) (w : World) (hf : r.fit w) (hU : utabs w) (hj : j < r.recs.length) (h : 0 ≤ r.first ∧ r.first ≤ 1000000) :
    Calls Tryz.prog 101 #[hearV r ta tl tc, .int .i64 (r.first + (j : Int))] w fun x w' => x = .returned (recV (recAt r.recs j).1 (recAt r.recs j).2.1 (recAt r.recs j).2.2.1) ∧ Below w.heap.size w w' := by
  have hRA : recAt r.recs j = readRes r.recs[j] := by simp [recAt, hj]
  obtain ⟨b, off, hra, hc⟩ := hf.str.strs.2 j hj
  have hjl : j < r.rl := by rw [← hf.str.strs.1]; exact hj
  have hrle := hf.rle
  have hsz : r.recs[j].size ≤ maxLen := by have := hf.sz _ (List.getElem_mem hj); unfold maxLen; omega
  obtain ⟨s, hs⟩ : ∃ s, r.recs[j] = s := ⟨_, rfl⟩
  rw [hRA]
  rw [hs] at hc hsz ⊢
  have HU : Hid (utabs w) := hU
  obtain ⟨n1, hn1⟩ : ∃ x, (readRes s).1 = x := ⟨_, rfl⟩
  obtain ⟨n2, hn2⟩ : ∃ x, (readRes s).2.1 = x := ⟨_, rfl⟩
  obtain ⟨n3, hn3⟩ : ∃ x, (readRes s).2.2.1 = x := ⟨_, rfl⟩
  obtain ⟨n4, hn4⟩ : ∃ x, (readRes s).2.2.2 = x := ⟨_, rfl⟩
  have HR : Hid (∀ u, utabs u → _) := fun u hu => impl_recRead s u hsz hu
  rw [recOutV, hn1, hn2, hn3, hn4] at HR
  rw [hn1, hn2, hn3]
  obtain ⟨cap, first, ra, rl, rc, ca, cl, cc, recs, curs⟩ := r
  simp only at hra hc hjl hrle h hf
  subst hra
  have hwj : IntKind.i64.wrap (first + (j : Int) - first) = (j : Int) := by rw [show first + (j : Int) - first = (j : Int) by omega]; exact twrap_in _ (by omega) (by omega)
  have hji : (j : Int) < (rl : Int) := by omega
  have hfl := fun w => field_rec n1 n2 n3 (n4 : Int) w
  have H0 : Hid (Below w.heap.size w ((w.alloc (hearO ⟨cap, first, some ⟨b, off, none⟩, rl, rc, ca, cl, cc, recs, curs⟩ ta tl tc)).alloc (.cells #[.int .i64 0, .int .i64 0, .string ⟨#[]⟩] 110))) := ((Below.refl _ _).alloc (Nat.le_refl _) _).alloc (by simp) _
  have HX : Hid (((w.alloc (hearO ⟨cap, first, some ⟨b, off, none⟩, rl, rc, ca, cl, cc, recs, curs⟩ ta tl tc)).alloc (.cells #[.int .i64 0, .int .i64 0, .string ⟨#[]⟩] 110)).heap[w.heap.size + 1]? = some (.cells #[.int .i64 0, .int .i64 0, .string ⟨#[]⟩] 110 (0, 0))) := by
    have h := heap_alloc_new (w.alloc (hearO ⟨cap, first, some ⟨b, off, none⟩, rl, rc, ca, cl, cc, recs, curs⟩ ta tl tc)) (.cells #[.int .i64 0, .int .i64 0, .string ⟨#[]⟩] 110)
    simp only [World.size_alloc] at h
    exact h
  have hc0 : w.cell? ⟨b, off + j, none⟩ = some (.string s) := hc
  have hcw := cell_below hc0 H0.out
  clear hf hU hRA hj hn1 hn2 hn3 hn4 hs hc hc0 hsz
  go_enter Tryz.func101, Tryz.ntmps101
  go_wp2_with fail
  refine (HR.out _ (utabs_below HU.out H0.out)).mono ?_
  rintro x v ⟨rfl, hbv⟩
  have HB : Hid (Below w.heap.size w v) := below_tr H0.out hbv
  have hx1 := (hbv.block _ (fb_lt HX.out)).trans HX.out
  have cx := fun o => fb_cell hx1 o
  have fx := fun o => unfrozen_of_block0 hx1 o
  have hlt : w.heap.size ≤ w.heap.size + 1 := Nat.le_succ _
  clear hbv hcw HX hx1
  go_wp2
  exact bodyPost_ret (v := recV n1 n2 n3) (by simp [results, Tryz.results101, go_sem, cx]) rfl ⟨rfl, ((HB.out.setCell (p := ⟨w.heap.size + 1, 0, none⟩) hlt _).setCell (p := ⟨w.heap.size + 1, 1, none⟩) hlt _).setCell (p := ⟨w.heap.size + 1, 2, none⟩) hlt _⟩
set_option maxRecDepth 100000 in
set_option maxHeartbeats 1000000 in
theorem impl_isDataOf (st : Int) (r : RD) (j : Nat) (ts : List TD) (w : World) (hf : r.fit w) (hU : utabs w) (hT : Txs w ta tl ts) (htl : tl ≤ 1048576) (hj : j < r.recs.length) (h : 0 ≤ r.first ∧ r.first ≤ 1000000) (hM : ∃ (M : Nat) (t : TD), (readRes r.recs[j]).2.1 = (M : Int) + 1 ∧ ts[M]? = some t) :
    Calls Tryz.prog 100 #[hearV r ta tl tc, .int .i64 (r.first + (j : Int)), .int .i64 st] w fun x w' => x = .returned (.bool (dataOf ts st r.recs[j])) ∧ Below w.heap.size w w' := by
  obtain ⟨M, t, hM, het⟩ := hM
  have hra : recAt r.recs j = readRes r.recs[j] := by simp [recAt, hj]
  have hD : dataOf ts st r.recs[j] = ((recAt r.recs j).1 == 1 && t.s == st) := by rw [dataOf_at hM het, hra]
  rw [← hra] at hM
  have HA : Hid (∀ w, r.fit w → utabs w → _) := fun w h1 h2 => impl_hrecAt ta tl tc r j w h1 h2 hj h
  obtain ⟨n1, hk1⟩ : ∃ x, (recAt r.recs j).1 = x := ⟨_, rfl⟩
  obtain ⟨n2, hk2⟩ : ∃ x, (recAt r.recs j).2.1 = x := ⟨_, rfl⟩
  obtain ⟨n3, hk3⟩ : ∃ x, (recAt r.recs j).2.2.1 = x := ⟨_, rfl⟩
  rw [hk1, hk2, hk3] at HA
  rw [hk2] at hM
  rw [hk1] at hD
  subst hM
  have hMt : M < tl := by rw [← hT.1]; exact (List.getElem?_eq_some_iff.1 het).1
  obtain ⟨Q, hQ⟩ : ∃ Q, dataOf ts st r.recs[j] = Q := ⟨_, rfl⟩
  have HD : Hid (Q = (n1 == 1 && t.s == st)) := hQ.symm.trans hD
  rw [hQ]
  have HET : Hid (ts[M]? = some t) := het
  have HT : Hid (Txs w ta tl ts) := hT
  have HF : Hid (r.fit w) := hf
  have HU : Hid (utabs w) := hU
  have HFB : Hid (FB w (w.alloc (hearO r ta tl tc)) (hearO r ta tl tc)) := fb_new _ _ _
  clear hf hU hT hra hk1 hk2 hk3 hD het hQ
  obtain ⟨cap, first, ra, rl, rc, ca, cl, cc, recs, curs⟩ := r
  simp only at h hj
  go_enter Tryz.func100, Tryz.ntmps100
  go_wp2_with fail
  refine (HA.out _ (HF.out.below HFB.out.bel) (utabs_below HU.out HFB.out.bel)).mono ?_
  rintro x v ⟨rfl, hbv⟩
  have HFB2 : Hid (FB w (v.alloc (.cells #[.int .i64 n1, .int .i64 ((M : Int) + 1), .string n3] 110)) (hearO ⟨cap, first, ra, rl, rc, ca, cl, cc, recs, curs⟩ ta tl tc)) := (HFB.out.under hbv).under (fbelow_new _ _)
  clear hbv HFB HA
  obtain ⟨b4, off4, t', hta, et, _, _, g2, _, _, _, _⟩ := txsG_at keeps_tfit (txs_below HT.out HFB2.out.bel) (Below.refl _ _) hMt
  obtain rfl : t = t' := Option.some.inj (HET.out.symm.trans et)
  subst hta
  clear et HET HT
  have hWM : IntKind.i64.wrap (M : Int) = (M : Int) := twrap_in _ (by omega) (by omega)
  have hMi : (M : Int) < (tl : Int) := by omega
  have cf := fun o => fb_cell HFB2.out.box o
  by_cases h1 : n1 = 1
  · have h1' : (n1 == 1) = true := by rw [beq_iff_eq]; exact h1
    clear h1
    go_wp2
    go_ret
    exact ⟨ret_bool (by rw [HD.out, h1', Bool.true_and]), HFB2.out.bel⟩
  · have h1' : (n1 == 1) = false := by rw [beq_eq_false_iff_ne]; exact h1
    clear h1
    go_wp2
    go_ret
    exact ⟨ret_bool (by rw [HD.out, h1', Bool.false_and]), HFB2.out.bel⟩
/-- What is asked of one who hears: the ring's lists, the transactions, the decoder's tables. -/
structure HR (w : World) (r : RD) (ta : Option Addr) (tl : Nat) (ts : List TD) : Prop where
  fit : r.fit w
  txs : Txs w ta tl ts
  tab : utabs w
theorem HR.below {w w' : World} {r : RD} {ta : Option Addr} {tl : Nat} {ts : List TD} (h : HR w r ta tl ts) (hb : Below w.heap.size w w') : HR w' r ta tl ts := ⟨h.fit.below hb, txs_below h.txs hb, utabs_below h.tab hb⟩
structure HW (w v : World) (r : RD) (ta : Option Addr) (tl tc : Nat) (ts : List TD) : Prop where
  fb : FB w v (hearO r ta tl tc)
  hr : HR v r ta tl ts
theorem HW.under {w u v : World} {r : RD} {ta : Option Addr} {tl tc : Nat} {ts : List TD} (h : HW w u r ta tl tc ts) (hb : Below u.heap.size u v) : HW w v r ta tl tc ts := ⟨h.fb.under hb, h.hr.below hb⟩
set_option maxRecDepth 100000 in
set_option maxHeartbeats 2000000 in
theorem impl_hstable (r : RD) (ts : List TD) (w : World) (hh : HR w r ta tl ts) (htl : tl ≤ 1048576) (h : 0 ≤ r.first ∧ r.first ≤ 1000000) (hM : ∀ (j : Nat) (hj : j < r.recs.length), ∃ (M : Nat) (t : TD), (readRes r.recs[j]).2.1 = (M : Int) + 1 ∧ ts[M]? = some t) :
    Calls Tryz.prog 61 #[hearV r ta tl tc] w fun x w' => x = .returned (.int .i64 (stableR ts r)) ∧ Below w.heap.size w w' := by
  have hrle := hh.fit.rle
  have HLEN : Hid (r.recs.length = r.rl) := hh.fit.str.strs.1
  have H0 : Hid (HW w (w.alloc (hearO r ta tl tc)) r ta tl tc ts) := ⟨fb_new _ _ _, hh.below (fbelow_new _ _)⟩
  have HM : Hid (∀ (j : Nat) (hj : j < r.recs.length), ∃ (M : Nat) (t : TD), (readRes r.recs[j]).2.1 = (M : Int) + 1 ∧ ts[M]? = some t) := hM
  have HE : Hid _ := fun w => impl_hend ta tl tc r w h hrle
  have HD : Hid _ := fun (j : Nat) (hj : j < r.recs.length) w (h2 : HR w r ta tl ts) => impl_isDataOf ta tl tc 1 r j ts w h2.fit h2.tab h2.txs htl hj h (hM j hj)
  clear hh hM
  obtain ⟨cap, first, ra, rl, rc, ca, cl, cc, recs, curs⟩ := r
  simp only at h hrle
  have hwl : IntKind.i64.wrap (first + (rl : Int) - first) = (rl : Int) := by rw [show first + (rl : Int) - first = (rl : Int) by omega]; exact twrap_in _ (by omega) (by omega)
  go_enter Tryz.func61, Tryz.ntmps61
  go_upto_region 1 with fail
  have H1 : Hid (HW w (w.alloc (hearO ⟨cap, first, ra, rl, rc, ca, cl, cc, recs, curs⟩ ta tl tc)).drew ⟨cap, first, ra, rl, rc, ca, cl, cc, recs, curs⟩ ta tl tc ts) := H0.out.under ((Below.refl _ _).drew)
  clear H0
  refine wp_region_held_drew (S := (fun x => ∀ o, x.cell? ⟨w.heap.size, o, none⟩ = (#[.int .i64 cap, .int .i64 first, .slice ra rl rc, .slice ca cl cc, .slice ta tl tc] : Array Value)[o]?)) (by kernel_rfl) (fun o => fb_cell H1.out.fb.box o) (fun hHeld => ?_)
  refine wpAnyH_take (i := 0) (v := ?_) rfl (by kernel_rfl) (by kernel_rfl) (by kernel_rfl) (fun _ _ _ h => h) (Or.inl ⟨by rfl, ?_⟩) hHeld ?_
  rotate_left
  · intro wy hSw; (try dsimp only at hSw); go_simp; (try with_reducible rfl)
  try simp only [Act.put, List.getElem_toArray, List.getElem_cons_zero, List.getElem_cons_succ, List.setIfInBounds_toArray, List.set_cons_zero, List.set_cons_succ]
  refine wpAnyH_take (i := 2) (v := ?_) rfl (by kernel_rfl) (by kernel_rfl) (by kernel_rfl) (fun _ _ _ h => h) (Or.inl ⟨by rfl, ?_⟩) hHeld ?_
  rotate_left
  · intro wy hSw; (try dsimp only at hSw); go_simp; (try with_reducible rfl)
  try simp only [Act.put, List.getElem_toArray, List.getElem_cons_zero, List.getElem_cons_succ, List.setIfInBounds_toArray, List.set_cons_zero, List.set_cons_succ]
  refine wpAnyH_take (i := 3) (v := ?_) rfl (by kernel_rfl) (by kernel_rfl) (by kernel_rfl) (fun _ _ _ h => h) (Or.inl ⟨by rfl, ?_⟩) hHeld ?_
  rotate_left
  · intro wy hSw; (try dsimp only at hSw); go_simp; (try with_reducible rfl)
  try simp only [Act.put, List.getElem_toArray, List.getElem_cons_zero, List.getElem_cons_succ, List.setIfInBounds_toArray, List.set_cons_zero, List.set_cons_succ]
  refine wpAnyH_take (i := 4) (v := ?_) rfl (by kernel_rfl) (by kernel_rfl) (by kernel_rfl) (fun _ _ _ h => h) (Or.inl ⟨by rfl, ?_⟩) hHeld ?_
  rotate_left
  · intro wy hSw; (try dsimp only at hSw); go_simp; (try with_reducible rfl)
  try simp only [Act.put, List.getElem_toArray, List.getElem_cons_zero, List.getElem_cons_succ, List.setIfInBounds_toArray, List.set_cons_zero, List.set_cons_succ]
  refine wpAnyH_take (i := 6) (v := ?_) rfl (by kernel_rfl) (by kernel_rfl) (by kernel_rfl) (fun _ _ _ h => h) (Or.inl ⟨by rfl, ?_⟩) hHeld ?_
  rotate_left
  · intro wy hSw; (try dsimp only at hSw); go_simp; (try with_reducible rfl)
  try simp only [Act.put, List.getElem_toArray, List.getElem_cons_zero, List.getElem_cons_succ, List.setIfInBounds_toArray, List.set_cons_zero, List.set_cons_succ]
  refine wpAnyH_ready (rs := [1]) (by kernel_rfl) (by simp) ?_
  refine AllReadyH.cons rfl (fun K hK => ?_) AllReadyH.nil
  go_simp
  refine (HE.out _).mono ?_; rintro x v1 ⟨rfl, hb1⟩; have H1 : Hid (HW w v1 ⟨cap, first, ra, rl, rc, ca, cl, cc, recs, curs⟩ ta tl tc ts) := H1.out.under hb1; clear hb1
  go_wp2_with fail
  refine hK.out _ _ ?_ (fun hHeld => ?_)
  · exact fun o => fb_cell H1.out.fb.box o
  clear hK K
  try simp only [Act.put, List.getElem_toArray, List.getElem_cons_zero, List.getElem_cons_succ, List.setIfInBounds_toArray, List.set_cons_zero, List.set_cons_succ]
  refine wpAnyH_take (i := 5) (v := ?_) rfl (by kernel_rfl) (by kernel_rfl) (by kernel_rfl) (fun _ _ _ h => h) (Or.inl ⟨by rfl, ?_⟩) hHeld ?_
  rotate_left
  · intro wy hSw; (try dsimp only at hSw); go_simp; (try with_reducible rfl)
  try simp only [Act.put, List.getElem_toArray, List.getElem_cons_zero, List.getElem_cons_succ, List.setIfInBounds_toArray, List.set_cons_zero, List.set_cons_succ]
  refine wpAnyH_done (by kernel_rfl) ?_ _
  go_wp2_with fail
  go_loopw [11] (fun i wr => ∃ j : Nat, j ≤ rl ∧ i = .int .i64 j ∧ Hid (noneTo (dataOf ts 1) recs j) ∧ Hid (HW w wr ⟨cap, first, ra, rl, rc, ca, cl, cc, recs, curs⟩ ta tl tc ts)) (fun i _ => rl - (intOf i).toNat)
  case atStart => exact ⟨0, by omega, rfl, (fun i hi => by omega), H1.out⟩
  case round =>
    obtain ⟨j, hj, rfl, hto, hw⟩ := hrel
    clear H1
    have cf := fun o => fb_cell hw.out.fb.box o
    by_cases hlt : j < rl
    · have hjr : j < recs.length := by rw [HLEN.out]; exact hlt
      have HDj : Hid _ := HD.out j hjr
      obtain ⟨Q, hQ⟩ : ∃ Q, dataOf ts 1 recs[j] = Q := ⟨_, rfl⟩
      have HQ : Hid (dataOf ts 1 recs[j] = Q) := hQ
      simp only [hQ] at HDj
      have hwj : IntKind.i64.wrap (first + (j : Int)) = first + (j : Int) := twrap_in _ (by omega) (by omega)
      clear hQ
      go_wp2_with fail
      refine (HDj.out _ hw.out.hr).mono ?_
      rintro x v ⟨rfl, hbv⟩
      have H2 : Hid (HW w v ⟨cap, first, ra, rl, rc, ca, cl, cc, recs, curs⟩ ta tl tc ts) := hw.out.under hbv
      clear hbv cf hw
      cases Q with
      | true =>
        have HV : Hid (first + (j : Int) = stableR ts ⟨cap, first, ra, rl, rc, ca, cl, cc, recs, curs⟩) := show _ = _ by simp only [stableR, noneTo_at hto.out hjr HQ.out]
        clear HQ HDj
        go_wp2
        go_ret
        exact ⟨ret_int HV.out, H2.out.fb.bel⟩
      | false =>
        have HV : Hid _ := noneTo_succ hto.out hjr HQ.out
        clear HQ HDj
        go_wp2
        exact ⟨⟨j + 1, by omega, by go_num, HV.out, H2.out⟩, by simp [intOf]; omega⟩
    · have HV : Hid (first + (rl : Int) = stableR ts ⟨cap, first, ra, rl, rc, ca, cl, cc, recs, curs⟩) := show _ = _ by
        have h1 := noneTo_end hto.out (show recs.length ≤ j by rw [HLEN.out]; omega)
        simp only [stableR, h1, HLEN.out]
      go_wp2_with fail
      refine (HE.out _).mono ?_
      rintro x v ⟨rfl, hbv⟩
      have HB : Hid (Below w.heap.size w v) := below_tr hw.out.fb.bel hbv
      clear hbv
      go_wp2
      go_ret
      exact ⟨ret_int HV.out, HB.out⟩
set_option maxRecDepth 100000 in
set_option maxHeartbeats 1000000 in
theorem impl_there (r : RD) (a : Int) (w : World) (h : 0 ≤ r.first ∧ r.first ≤ 1000000) (hl : r.rl ≤ 1048576) :
    Calls Tryz.prog 65 #[hearV r ta tl tc, .int .i64 a] w fun x w' => x = .returned (.bool (decide (r.first ≤ a ∧ a < r.first + (r.rl : Int)))) ∧ Below w.heap.size w w' := by
  have H0 : Hid (FB w (w.alloc (hearO r ta tl tc)) (hearO r ta tl tc)) := fb_new _ _ _
  have HE : Hid _ := fun w => impl_hend ta tl tc r w h hl
  obtain ⟨cap, first, ra, rl, rc, ca, cl, cc, recs, curs⟩ := r
  simp only at h hl
  by_cases h1 : first ≤ a
  · have h1' : decide (first ≤ a) = true := decide_eq_true h1
    have hg1 : decide (a ≥ first) = true := decide_eq_true h1
    go_enter Tryz.func65, Tryz.ntmps65
    go_wp2_with fail
    refine (HE.out _).mono ?_
    rintro x v ⟨rfl, hbv⟩
    have HB : Hid (Below w.heap.size w v) := below_tr H0.out.bel hbv
    clear hbv H0
    by_cases h2 : a < first + (rl : Int)
    · have h2' : decide (a < first + (rl : Int)) = true := decide_eq_true h2
      go_wp2
      go_ret
      exact ⟨ret_bool (by simp [h1, h2]), HB.out⟩
    · have h2' : decide (a < first + (rl : Int)) = false := decide_eq_false h2
      go_wp2
      go_ret
      exact ⟨ret_bool (by simp [h2]), HB.out⟩
  · have h1' : decide (first ≤ a) = false := decide_eq_false h1
    have hg1 : decide (a ≥ first) = false := decide_eq_false h1
    go_enter Tryz.func65, Tryz.ntmps65
    go_wp2
    go_ret
    exact ⟨ret_bool (by simp [h1]), H0.out.bel⟩
set_option maxRecDepth 100000 in
set_option maxHeartbeats 2000000 in
theorem impl_whatCounts (r : RD) (j : Nat) (ts : List TD) (w : World) (hh : HR w r ta tl ts) (htl : tl ≤ 1048576) (hj : j < r.recs.length) (h : 0 ≤ r.first ∧ r.first ≤ 1000000) (hM : ∃ (M : Nat) (t : TD), (readRes r.recs[j]).2.1 = (M : Int) + 1 ∧ ts[M]? = some t) :
    Calls Tryz.prog 66 #[hearV r ta tl tc, .int .i64 (r.first + (j : Int))] w fun x w' => x = .returned (.tuple #[.string (recAt r.recs j).2.2.1, .bool (dataOf ts 2 r.recs[j])]) ∧ Below w.heap.size w w' := by
  have H0 : Hid (HW w (w.alloc (hearO r ta tl tc)) r ta tl tc ts) := ⟨fb_new _ _ _, hh.below (fbelow_new _ _)⟩
  have HA : Hid _ := fun w (h2 : HR w r ta tl ts) => impl_hrecAt ta tl tc r j w h2.fit h2.tab hj h
  have HD : Hid _ := fun w (h2 : HR w r ta tl ts) => impl_isDataOf ta tl tc 2 r j ts w h2.fit h2.tab h2.txs htl hj h hM
  obtain ⟨Q, hQ⟩ : ∃ Q, dataOf ts 2 r.recs[j] = Q := ⟨_, rfl⟩
  obtain ⟨n1, hk1⟩ : ∃ x, (recAt r.recs j).1 = x := ⟨_, rfl⟩
  obtain ⟨n2, hk2⟩ : ∃ x, (recAt r.recs j).2.1 = x := ⟨_, rfl⟩
  obtain ⟨n3, hk3⟩ : ∃ x, (recAt r.recs j).2.2.1 = x := ⟨_, rfl⟩
  rw [hk1, hk2, hk3] at HA
  rw [hQ] at HD ⊢
  rw [hk3]
  have hfd : ∀ u, (Instr.field 110 (recV n1 n2 n3) 2).run Tryz.prog u = .ok (.string n3) u := fun u => by kernel_rfl
  clear hh hM hQ hk1 hk2 hk3
  obtain ⟨cap, first, ra, rl, rc, ca, cl, cc, recs, curs⟩ := r
  simp only at h hj
  go_enter Tryz.func66, Tryz.ntmps66
  go_upto_region 1 with fail
  have H1 : Hid (HW w (w.alloc (hearO ⟨cap, first, ra, rl, rc, ca, cl, cc, recs, curs⟩ ta tl tc)).drew ⟨cap, first, ra, rl, rc, ca, cl, cc, recs, curs⟩ ta tl tc ts) := H0.out.under ((Below.refl _ _).drew)
  clear H0
  refine wp_region_held_drew (S := (fun x => ∀ o, x.cell? ⟨w.heap.size, o, none⟩ = (#[.int .i64 cap, .int .i64 first, .slice ra rl rc, .slice ca cl cc, .slice ta tl tc] : Array Value)[o]?)) (by kernel_rfl) (fun o => fb_cell H1.out.fb.box o) (fun hHeld => ?_)
  refine wpAnyH_take (i := 0) (v := ?_) rfl (by kernel_rfl) (by kernel_rfl) (by kernel_rfl) (fun _ _ _ h => h) (Or.inl ⟨by rfl, ?_⟩) hHeld ?_
  rotate_left
  · intro wy hSw; (try dsimp only at hSw); go_simp; (try with_reducible rfl)
  try simp only [Act.put, List.getElem_toArray, List.getElem_cons_zero, List.getElem_cons_succ, List.setIfInBounds_toArray, List.set_cons_zero, List.set_cons_succ]
  refine wpAnyH_take (i := 1) (v := ?_) rfl (by kernel_rfl) (by kernel_rfl) (by kernel_rfl) (fun _ _ _ h => h) (Or.inl ⟨by rfl, ?_⟩) hHeld ?_
  rotate_left
  · intro wy hSw; (try dsimp only at hSw); go_simp; (try with_reducible rfl)
  try simp only [Act.put, List.getElem_toArray, List.getElem_cons_zero, List.getElem_cons_succ, List.setIfInBounds_toArray, List.set_cons_zero, List.set_cons_succ]
  refine wpAnyH_take (i := 4) (v := ?_) rfl (by kernel_rfl) (by kernel_rfl) (by kernel_rfl) (fun _ _ _ h => h) (Or.inl ⟨by rfl, ?_⟩) hHeld ?_
  rotate_left
  · intro wy hSw; (try dsimp only at hSw); go_simp; (try with_reducible rfl)
  try simp only [Act.put, List.getElem_toArray, List.getElem_cons_zero, List.getElem_cons_succ, List.setIfInBounds_toArray, List.set_cons_zero, List.set_cons_succ]
  refine wpAnyH_take (i := 5) (v := ?_) rfl (by kernel_rfl) (by kernel_rfl) (by kernel_rfl) (fun _ _ _ h => h) (Or.inl ⟨by rfl, ?_⟩) hHeld ?_
  rotate_left
  · intro wy hSw; (try dsimp only at hSw); go_simp; (try with_reducible rfl)
  try simp only [Act.put, List.getElem_toArray, List.getElem_cons_zero, List.getElem_cons_succ, List.setIfInBounds_toArray, List.set_cons_zero, List.set_cons_succ]
  refine wpAnyH_ready (rs := [2]) (by kernel_rfl) (by simp) ?_
  refine AllReadyH.cons rfl (fun K hK => ?_) AllReadyH.nil
  go_simp
  refine (HA.out _ H1.out.hr).mono ?_; rintro x v1 ⟨rfl, hb1⟩; have H1 : Hid (HW w v1 ⟨cap, first, ra, rl, rc, ca, cl, cc, recs, curs⟩ ta tl tc ts) := H1.out.under hb1; clear hb1
  go_wp2_with fail
  refine hK.out _ _ ?_ (fun hHeld => ?_)
  · exact fun o => fb_cell H1.out.fb.box o
  clear hK K
  try simp only [Act.put, List.getElem_toArray, List.getElem_cons_zero, List.getElem_cons_succ, List.setIfInBounds_toArray, List.set_cons_zero, List.set_cons_succ]
  refine wpAnyH_take (i := 3) (v := ?_) rfl (by kernel_rfl) (by kernel_rfl) (by kernel_rfl) (fun _ _ _ h => h) (Or.inl ⟨by rfl, ?_⟩) hHeld ?_
  rotate_left
  · intro wy hSw; (try dsimp only at hSw); go_simp; (try with_reducible rfl)
  try simp only [Act.put, List.getElem_toArray, List.getElem_cons_zero, List.getElem_cons_succ, List.setIfInBounds_toArray, List.set_cons_zero, List.set_cons_succ]
  refine wpAnyH_ready (rs := [6]) (by kernel_rfl) (by simp) ?_
  refine AllReadyH.cons rfl (fun K hK => ?_) AllReadyH.nil
  go_simp
  refine (HD.out _ H1.out.hr).mono ?_; rintro x v2 ⟨rfl, hb2⟩; have H1 : Hid (HW w v2 ⟨cap, first, ra, rl, rc, ca, cl, cc, recs, curs⟩ ta tl tc ts) := H1.out.under hb2; clear hb2
  go_wp2_with fail
  refine hK.out _ _ ?_ (fun hHeld => ?_)
  · exact fun o => fb_cell H1.out.fb.box o
  clear hK K
  try simp only [Act.put, List.getElem_toArray, List.getElem_cons_zero, List.getElem_cons_succ, List.setIfInBounds_toArray, List.set_cons_zero, List.set_cons_succ]
  refine wpAnyH_take (i := 7) (v := ?_) rfl (by kernel_rfl) (by kernel_rfl) (by kernel_rfl) (fun _ _ _ h => h) (Or.inl ⟨by rfl, ?_⟩) hHeld ?_
  rotate_left
  · intro wy hSw; (try dsimp only at hSw); go_simp; (try with_reducible rfl)
  try simp only [Act.put, List.getElem_toArray, List.getElem_cons_zero, List.getElem_cons_succ, List.setIfInBounds_toArray, List.set_cons_zero, List.set_cons_succ]
  refine wpAnyH_take (i := 8) (v := ?_) rfl (by kernel_rfl) (by kernel_rfl) (by kernel_rfl) (fun _ _ _ h => h) (Or.inl ⟨by rfl, ?_⟩) hHeld ?_
  rotate_left
  · intro wy hSw; (try dsimp only at hSw); go_simp; (try with_reducible rfl)
  try simp only [Act.put, List.getElem_toArray, List.getElem_cons_zero, List.getElem_cons_succ, List.setIfInBounds_toArray, List.set_cons_zero, List.set_cons_succ]
  refine wpAnyH_done (by kernel_rfl) ?_ _
  go_wp2
  exact bodyPost_ret (v := .tuple #[.string n3, .bool Q]) (by simp [results, Tryz.results66, go_sem]) rfl ⟨rfl, H1.out.fb.bel⟩
end
end Go.Proofs.YtdepaeajfldfbaaGreatDoor
