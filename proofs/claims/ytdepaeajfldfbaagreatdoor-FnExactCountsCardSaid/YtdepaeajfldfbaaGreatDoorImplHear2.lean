/- The program's Stable and Counts. -/
import Derived.Test.YtdepaeajfldfbaaGreatDoorImplHear
import Derived.Test.YtdepaeajfldfbaaGreatDoorLawFabQ
namespace Go.Proofs.YtdepaeajfldfbaaGreatDoor
open Go.RowKit Go.Maps
attribute [local go_sem ↓] Go.wp_at_zero Go.wp_at_succ
set_option linter.unusedSimpArgs false
set_option linter.unusedVariables false

abbrev zR : RD := ⟨0, 0, none, 0, 0, none, 0, 0, [], []⟩
abbrev set5 (w : World) (b : Nat) (v0 v1 v2 v3 v4 : Value) : World := ((((w.setCell ⟨b, 0, none⟩ v0).setCell ⟨b, 1, none⟩ v1).setCell ⟨b, 2, none⟩ v2).setCell ⟨b, 3, none⟩ v3).setCell ⟨b, 4, none⟩ v4
theorem grown_set5 (w : World) (b : Nat) (v0 v1 v2 v3 v4 : Value) : w.grownBy (set5 w b v0 v1 v2 v3 v4) (some b) :=
  ((((grown_setc w b 0 v0).trans (grown_setc _ b 1 v1)).trans (grown_setc _ b 2 v2)).trans (grown_setc _ b 3 v3)).trans (grown_setc _ b 4 v4)
theorem below_set5 {w v : World} (h : Below w.heap.size w v) {b : Nat} (hb : w.heap.size ≤ b) (v0 v1 v2 v3 v4 : Value) : Below w.heap.size w (set5 v b v0 v1 v2 v3 v4) :=
  ((((h.setCell (p := ⟨b, 0, none⟩) hb _).setCell (p := ⟨b, 1, none⟩) hb _).setCell (p := ⟨b, 2, none⟩) hb _).setCell (p := ⟨b, 3, none⟩) hb _).setCell (p := ⟨b, 4, none⟩) hb _
section
variable {lo : Nat} {B M : Nat} {ta : Option Addr} {tl tc : Nat} {ra : Option Addr} {rl rc : Nat} {ea : Option Addr} {el ec : Nat} {now began puts : Int} {ts : List TD} {rs : List RD} {es : List Int} {m : Nat} {D : DataW Unit}
theorem hear_txs {w v : World} {X : Nat} {C : Array Value} (h : WK lo v B M ta tl tc ra rl rc ea el ec now began puts ts rs es m D) (hX : v.heap[X]? = some (.cells C 92 (0, 0))) (ft : ∀ t ∈ ts, TFit w t) (hb : Below w.heap.size w v) (hx : w.heap.size ≤ X) (v0 v1 v2 v3 v4 : Value) :
    Txs (set5 v.drew X v0 v1 v2 v3 v4) ta tl ts :=
  txs_own (Q := fun w t => TFit w t) (own_keep h.t.drew (grown_set5 v.drew X v0 v1 v2 v3 v4) (.inr (own_ne h.t hX (by decide)))) (fun t ht => (ft t ht).below (below_set5 hb.drew hx v0 v1 v2 v3 v4))
end
variable (ra : Option Addr) (rl rc : Nat) (ea : Option Addr) (el ec : Nat) (ta : Option Addr) (tl tc : Nat) (now : Int)
/-- What is answered: none to hear, and why not. -/
def NoHear (x : Ending) : Prop := ∃ t y, x = .returned (.tuple #[hearV zR none 0 0, .iface t y])
/-- What is answered: who hears. -/
def Hears (w' : World) (x : Ending) (tl : Nat) (n : Int) (rs : List RD) (ts : List TD) : Prop := ∃ r ta tc, rs[n.toNat]? = some r ∧ x = .returned (.tuple #[hearV r ta tl tc, .nilIface]) ∧ HR w' r ta tl ts
set_option maxRecDepth 100000 in
set_option maxHeartbeats 4000000 in
theorem impl_hearingOf (n : Int) (rs : List RD) (es : List Int) (ts : List TD) (w : World) (hi : FIn w ra rl ea el ta tl rs es ts) (hU : utabs w) (hE : errs w) (hES : errAt 3 w) (hnr : ra = none → rl = 0 ∧ rc = 0) (hne : ea = none → el = 0 ∧ ec = 0) (hnt : ta = none → tl = 0 ∧ tc = 0) :
    Calls Tryz.prog 60 #[fabVal ra rl rc ea el ec ta tl tc now, .int .i64 n] w fun x w' => (((fabRightB rs es ts now && decide (0 ≤ n ∧ n ≤ (rl : Int) - 1)) = false → NoHear x) ∧ ((fabRightB rs es ts now && decide (0 ≤ n ∧ n ≤ (rl : Int) - 1)) = true → Hears w' x tl n rs ts)) ∧ Below w.heap.size w w' := by
  have H0 : Hid (FB w ((w.alloc (fabO ra rl rc ea el ec ta tl tc now)).alloc (hearO zR none 0 0)) (fabO ra rl rc ea el ec ta tl tc now)) := (fb_new _ _ _).under (fbelow_new _ _)
  have HX : Hid (((w.alloc (fabO ra rl rc ea el ec ta tl tc now)).alloc (hearO zR none 0 0)).heap[w.heap.size + 1]? = some (hearO zR none 0 0)) := by
    have h := heap_alloc_new (w.alloc (fabO ra rl rc ea el ec ta tl tc now)) (hearO zR none 0 0)
    simp only [World.size_alloc] at h
    exact h
  have HI : Hid (FIn w ra rl ea el ta tl rs es ts) := hi
  have HU : Hid (utabs w) := hU
  have HE : Hid (errs w) := hE
  have HES : Hid (errAt 3 w) := hES
  have HN : Hid ((ra = none → rl = 0 ∧ rc = 0) ∧ (ea = none → el = 0 ∧ ec = 0) ∧ (ta = none → tl = 0 ∧ tc = 0)) := ⟨hnr, hne, hnt⟩
  clear hi hU hE hnr hne hnt hES
  go_enter Tryz.func60, Tryz.ntmps60
  go_wp2_with fail
  refine (impl_startWork ra rl rc ea el ec ta tl tc now rs es ts _ (HI.out.below H0.out.bel) (utabs_below HU.out H0.out.bel) (errs_below HE.out H0.out.bel) HN.out.1 HN.out.2.1 HN.out.2.2).mono ?_
  rintro x v ⟨⟨hx1, hx2⟩, hb⟩
  have HB : Hid (Below w.heap.size w v) := below_tr H0.out.bel hb
  have HX1 : Hid (v.heap[w.heap.size + 1]? = some (hearO zR none 0 0)) := (hb.block _ (fb_lt HX.out)).trans HX.out
  have cx := fun o => fb_cell HX1.out o
  have fx := fun o => unfrozen_of_block0 HX1.out o
  have hle : w.heap.size ≤ w.heap.size + 1 := Nat.le_succ _
  cases hR : fabRightB rs es ts now with
  | false =>
    obtain ⟨t, y, _, rfl⟩ := hx2 hR
    have HRH : Hid (fabRightB rs es ts now = false) := hR
    clear hx1 hx2 hR hb H0 HX
    go_wp2
    exact bodyPost_ret (v := .tuple #[hearV zR none 0 0, .iface t y]) (by simp [results, Tryz.results60, go_sem, cx]) rfl ⟨⟨fun _ => ⟨t, y, rfl⟩, (fun e => by rw [HRH.out] at e; simp at e)⟩, below_set5 HB.out hle _ _ _ _ _⟩
  | true =>
    obtain ⟨B, M, ta', tc', ra', rc', ea', ec', rfl, ho⟩ := hx1 hR
    have hrl : rl ≤ 1048576 := HI.out.rle
    have HRH : Hid (fabRightB rs es ts now = true) := hR
    have HQ : Hid _ := fun w h => impl_hasRing (B := B) (ta := ta') (tl := tl) (tc := tc') (M := M) (ra := ra') (rl := rl) (rc := rc') (ea := ea') (el := 4) (ec := ec') (now := now) (began := endSum rs) (puts := 0) n w h hrl
    have HK : Hid _ := ho.out
    clear hx1 hx2 hR hb H0 HX ho cx fx
    go_wp2_with fail
    refine (HQ.out _ HK.out.b).mono ?_
    rintro x v2 ⟨rfl, hb2⟩
    have hbb2 : Below v.heap.size v v2 := by first | exact hb2 | (rw [hb2]; exact Below.refl _ _)
    have HB2 : Hid (Below w.heap.size w v2) := below_tr HB.out hbb2
    have HX2 : Hid (v2.heap[w.heap.size + 1]? = some (hearO zR none 0 0)) := (hbb2.block _ (fb_lt HX1.out)).trans HX1.out
    have HK2 : Hid _ := HK.out.under hbb2
    have cx := fun o => fb_cell HX2.out o
    have fx := fun o => unfrozen_of_block0 HX2.out o
    clear hb2 hbb2 HK HQ HX1
    by_cases hT : 0 ≤ n ∧ n < (rl : Int)
    · rw [decide_eq_true hT]
      obtain ⟨k, rfl⟩ : ∃ k : Nat, n = (k : Int) := ⟨n.toNat, by omega⟩
      have hkl : k < rl := by omega
      have hki : (k : Int) < (rl : Int) := by omega
      obtain ⟨b, off, r, hra, e1, g0, g1, g2, g3, hf⟩ := rngsG_at keeps_fit HK2.out.rngs (Below.refl _ _) hkl
      have HKR : Hid (rs[(k : Int).toNat]? = some r) := show _ = _ by rw [Int.toNat_natCast]; exact e1
      have HRF : Hid (r.fit w) := rngs_fits HI.out.rs r (List.mem_of_getElem? e1)
      have HFT : Hid (∀ t ∈ ts, TFit w t) := txs_fits HI.out.ts
      have HDT : Hid (decide (0 ≤ (k : Int) ∧ (k : Int) ≤ (rl : Int) - 1) = true) := decide_eq_true (by omega)
      have cb := fun o => fb_cell HK2.out.b o
      have HWT : Hid (∀ v0 v1 v2' v3 v4, Txs (set5 v2.drew (w.heap.size + 1) v0 v1 v2' v3 v4) ta' tl ts) := fun v0 v1 v2' v3 v4 => hear_txs HK2.out HX2.out HFT.out HB2.out hle v0 v1 v2' v3 v4
      subst hra
      clear hT e1 hf
      go_wp2_with fail
      go_region
      all_goals (go_wp2; exact bodyPost_ret (v := .tuple #[hearV r ta' tl tc', .nilIface]) (by simp [results, Tryz.results60, go_sem, cx]) rfl ⟨⟨(fun e => by rw [HRH.out, HDT.out] at e; cases e), fun _ => ⟨r, ta', tc', HKR.out, rfl, ⟨HRF.out.below (below_set5 HB2.out.drew hle _ _ _ _ _), HWT.out _ _ _ _ _, utabs_below HU.out (below_set5 HB2.out.drew hle _ _ _ _ _)⟩⟩⟩, below_set5 HB2.out.drew hle _ _ _ _ _⟩)
    · rw [decide_eq_false hT]
      obtain ⟨t, y, h0⟩ := HES.out
      have hc := cell_below h0 HB2.out
      have hgl : 3 < w.heap.size := World.block_lt_of_cell? w ⟨3, 0, none⟩ h0
      have hgn : ¬ (3 = w.heap.size + 1) := by omega
      have hgn' : ¬ (w.heap.size + 1 = 3) := by omega
      clear hgl
      have HDF : Hid (decide (0 ≤ n ∧ n ≤ (rl : Int) - 1) = false) := decide_eq_false (by omega)
      clear hT h0
      go_wp2_with fail
      go_region
      all_goals (go_wp2; exact bodyPost_ret (v := .tuple #[hearV zR none 0 0, .iface t y]) (by simp [results, Tryz.results60, go_sem, cx]) rfl ⟨⟨fun _ => ⟨t, y, rfl⟩, (fun e => by rw [HDF.out] at e; simp at e)⟩, below_set5 HB2.out.drew hle _ _ _ _ _⟩)
set_option maxRecDepth 100000 in
set_option maxHeartbeats 2000000 in
theorem impl_Stable (n : Int) (rs : List RD) (es : List Int) (ts : List TD) (w : World) (hi : FIn w ra rl ea el ta tl rs es ts) (hU : utabs w) (hE : errs w) (hES : errAt 3 w) (hnr : ra = none → rl = 0 ∧ rc = 0) (hne : ea = none → el = 0 ∧ ec = 0) (hnt : ta = none → tl = 0 ∧ tc = 0) :
    Calls Tryz.prog 25 #[fabVal ra rl rc ea el ec ta tl tc now, .int .i64 n] w fun x w' => x = .returned (.int .i64 (if fabRightB rs es ts now && decide (0 ≤ n ∧ n ≤ (rl : Int) - 1) then stableV rs ts n else 0)) ∧ Below w.heap.size w w' := by
  have H0 : Hid (FB w (w.alloc (fabO ra rl rc ea el ec ta tl tc now)) (fabO ra rl rc ea el ec ta tl tc now)) := fb_new _ _ _
  have htl := hi.tle
  have HRL : Hid (rs.length = rl) := hi.rs.1
  have HH : Hid _ := fun u (h1 : FIn u ra rl ea el ta tl rs es ts) h2 h3 h4 => impl_hearingOf ra rl rc ea el ec ta tl tc now n rs es ts u h1 h2 h3 h4 hnr hne hnt
  have HI : Hid (FIn w ra rl ea el ta tl rs es ts) := hi
  have HU : Hid (utabs w) := hU
  have HE : Hid (errs w) := hE
  have HES : Hid (errAt 3 w) := hES
  clear hi hU hE hnr hne hnt hES
  obtain ⟨Z, hZ⟩ : ∃ Z : Int, (if fabRightB rs es ts now && decide (0 ≤ n ∧ n ≤ (rl : Int) - 1) then stableV rs ts n else 0) = Z := ⟨_, rfl⟩
  rw [hZ]
  have HZ : Hid ((if fabRightB rs es ts now && decide (0 ≤ n ∧ n ≤ (rl : Int) - 1) then stableV rs ts n else 0) = Z) := hZ
  clear hZ
  go_enter Tryz.func25, Tryz.ntmps25
  go_wp2_with fail
  refine (HH.out _ (HI.out.below H0.out.bel) (utabs_below HU.out H0.out.bel) (errs_below HE.out H0.out.bel) (errAt_below HES.out H0.out.bel)).mono ?_
  rintro x v ⟨⟨hx1, hx2⟩, hb⟩
  have HB : Hid (Below w.heap.size w v) := below_tr H0.out.bel hb
  cases hK : (fabRightB rs es ts now && decide (0 ≤ n ∧ n ≤ (rl : Int) - 1)) with
  | false =>
    obtain ⟨t, y, rfl⟩ := hx1 hK
    have hE : Hid (0 = Z) := by have h := HZ.out; rw [hK] at h; exact h
    have HB2 : Hid (Below w.heap.size w (v.alloc (hearO zR none 0 0))) := below_tr HB.out (fbelow_new _ _)
    clear hx1 hx2 hK hb H0 HZ HH
    go_wp2
    go_ret
    exact ⟨ret_int hE.out, HB2.out⟩
  | true =>
    obtain ⟨r, ta', tc', hkr, rfl, hr⟩ := hx2 hK
    have hE : Hid (stableR ts r = Z) := by have h := HZ.out; rw [hK, if_pos rfl] at h; unfold stableV at h; rw [hkr] at h; exact h
    simp only [Bool.and_eq_true] at hK
    have hd := of_decide_eq_true hK.2
    obtain ⟨k, rfl⟩ : ∃ k : Nat, n = (k : Int) := ⟨n.toNat, by omega⟩
    rw [Int.toNat_natCast] at hkr
    have hfit := right_ring hK.1 hkr
    have hfs := (right_first (fit_right hfit)).1
    have HHR : Hid (HR (v.alloc (hearO r ta' tl tc')) r ta' tl ts) := hr.below (fbelow_new _ _)
    have HB2 : Hid (Below w.heap.size w (v.alloc (hearO r ta' tl tc'))) := below_tr HB.out (fbelow_new _ _)
    have HS : Hid _ := fun u h1 => impl_hstable ta' tl tc' r ts u h1 htl hfs (fun j hj => fit_txn hfit hj)
    clear hx1 hx2 hK hb H0 HZ HH hd hkr hfit hr hfs
    obtain ⟨cap, first, ra3, rl3, rc3, ca3, cl3, cc3, recs, curs⟩ := r
    go_wp2_with fail
    refine (HS.out _ HHR.out).mono ?_
    rintro x v2 ⟨rfl, hb2⟩
    have HB3 : Hid (Below w.heap.size w v2) := below_tr HB2.out hb2
    clear hb2 HS HHR
    rw [hE.out]
    go_wp2
    go_ret
    exact ⟨ret_int rfl, HB3.out⟩
set_option maxRecDepth 100000 in
set_option maxHeartbeats 2000000 in
theorem impl_Counts (n a : Int) (rs : List RD) (es : List Int) (ts : List TD) (w : World) (hi : FIn w ra rl ea el ta tl rs es ts) (hU : utabs w) (hE : errs w) (hES : errAt 3 w) (hnr : ra = none → rl = 0 ∧ rc = 0) (hne : ea = none → el = 0 ∧ ec = 0) (hnt : ta = none → tl = 0 ∧ tc = 0) :
    Calls Tryz.prog 27 #[fabVal ra rl rc ea el ec ta tl tc now, .int .i64 n, .int .i64 a] w fun x w' => x = .returned (.bool (fabRightB rs es ts now && decide (0 ≤ n ∧ n ≤ (rl : Int) - 1) && countsV rs ts n a)) ∧ Below w.heap.size w w' := by
  have H0 : Hid (FB w (w.alloc (fabO ra rl rc ea el ec ta tl tc now)) (fabO ra rl rc ea el ec ta tl tc now)) := fb_new _ _ _
  have htl := hi.tle
  have HH : Hid _ := fun u (h1 : FIn u ra rl ea el ta tl rs es ts) h2 h3 h4 => impl_hearingOf ra rl rc ea el ec ta tl tc now n rs es ts u h1 h2 h3 h4 hnr hne hnt
  have HI : Hid (FIn w ra rl ea el ta tl rs es ts) := hi
  have HU : Hid (utabs w) := hU
  have HE : Hid (errs w) := hE
  have HES : Hid (errAt 3 w) := hES
  clear hi hU hE hnr hne hnt hES
  obtain ⟨Z, hZ⟩ : ∃ Z : Bool, (fabRightB rs es ts now && decide (0 ≤ n ∧ n ≤ (rl : Int) - 1) && countsV rs ts n a) = Z := ⟨_, rfl⟩
  rw [hZ]
  have HZ : Hid ((fabRightB rs es ts now && decide (0 ≤ n ∧ n ≤ (rl : Int) - 1) && countsV rs ts n a) = Z) := hZ
  clear hZ
  go_enter Tryz.func27, Tryz.ntmps27
  go_wp2_with fail
  refine (HH.out _ (HI.out.below H0.out.bel) (utabs_below HU.out H0.out.bel) (errs_below HE.out H0.out.bel) (errAt_below HES.out H0.out.bel)).mono ?_
  rintro x v ⟨⟨hx1, hx2⟩, hb⟩
  have HB : Hid (Below w.heap.size w v) := below_tr H0.out.bel hb
  cases hK : (fabRightB rs es ts now && decide (0 ≤ n ∧ n ≤ (rl : Int) - 1)) with
  | false =>
    obtain ⟨t, y, rfl⟩ := hx1 hK
    have hE : Hid (false = Z) := by have h := HZ.out; rw [hK] at h; exact h
    have HB2 : Hid (Below w.heap.size w (v.alloc (hearO zR none 0 0))) := below_tr HB.out (fbelow_new _ _)
    clear hx1 hx2 hK hb H0 HZ HH
    go_wp2
    go_ret
    exact ⟨ret_bool hE.out, HB2.out⟩
  | true =>
    obtain ⟨r, ta', tc', hkr, rfl, hr⟩ := hx2 hK
    have HZ1 : Hid (countsR ts r a = Z) := by have h := HZ.out; rw [hK, Bool.true_and] at h; unfold countsV at h; rw [hkr] at h; exact h
    simp only [Bool.and_eq_true] at hK
    have hd := of_decide_eq_true hK.2
    obtain ⟨k, rfl⟩ : ∃ k : Nat, n = (k : Int) := ⟨n.toNat, by omega⟩
    rw [Int.toNat_natCast] at hkr
    have hfit := right_ring hK.1 hkr
    have hfs := (right_first (fit_right hfit)).1
    have hrl := hr.fit.rle
    have HLEN : Hid (r.recs.length = r.rl) := hr.fit.str.strs.1
    have HHR : Hid (HR (v.alloc (hearO r ta' tl tc')) r ta' tl ts) := hr.below (fbelow_new _ _)
    have HHB : Hid ((v.alloc (hearO r ta' tl tc')).heap[v.heap.size]? = some (hearO r ta' tl tc')) := heap_alloc_new _ _
    have HB2 : Hid (Below w.heap.size w (v.alloc (hearO r ta' tl tc'))) := below_tr HB.out (fbelow_new _ _)
    have HTH : Hid _ := fun u => impl_there ta' tl tc' r a u hfs hrl
    have HWC : Hid _ := fun (j : Nat) (hj : j < r.recs.length) u h1 => impl_whatCounts ta' tl tc' r j ts u h1 htl hj hfs (fit_txn hfit hj)
    clear hx1 hx2 hK hb H0 HZ HH hd hkr hfit hr
    obtain ⟨cap, first, ra3, rl3, rc3, ca3, cl3, cc3, recs, curs⟩ := r
    simp only at hfs hrl
    go_wp2_with fail
    refine (HTH.out _).mono ?_
    rintro x v2 ⟨rfl, hb2⟩
    have HB3 : Hid (Below w.heap.size w v2) := below_tr HB2.out hb2
    have HHR2 : Hid (HR v2 ⟨cap, first, ra3, rl3, rc3, ca3, cl3, cc3, recs, curs⟩ ta' tl ts) := HHR.out.below hb2
    have HHB2 : Hid (v2.heap[v.heap.size]? = some (hearO ⟨cap, first, ra3, rl3, rc3, ca3, cl3, cc3, recs, curs⟩ ta' tl tc')) := (hb2.block _ (fb_lt HHB.out)).trans HHB.out
    have cx := fun o => fb_cell HHB2.out o
    clear hb2 HTH HHR HHB HB2
    by_cases hI : first ≤ a ∧ a < first + (rl3 : Int)
    · rw [decide_eq_true hI]
      obtain ⟨j, rfl⟩ : ∃ j : Nat, a = first + (j : Int) := ⟨(a - first).toNat, by omega⟩
      have hjl : j < rl3 := by omega
      have hj : j < recs.length := by rw [HLEN.out]; exact hjl
      have HWJ : Hid _ := HWC.out j hj
      have hE : Hid (dataOf ts 2 recs[j] = Z) := show _ = _ by
        have h := HZ1.out
        simp only [countsR] at h
        rw [decide_eq_true (show first ≤ first + (j : Int) ∧ first + (j : Int) ≤ first + (recs.length : Int) - 1 by omega), Bool.true_and, show (first + (j : Int) - first).toNat = j by omega, List.getElem?_eq_getElem hj] at h
        exact h
      simp only [hE.out] at HWJ
      clear hI HZ1 HWC hjl
      go_wp2_with fail
      refine (HWJ.out _ HHR2.out).mono ?_
      rintro x v3 ⟨rfl, hb3⟩
      have HB4 : Hid (Below w.heap.size w v3) := below_tr HB3.out hb3
      clear hb3 HWJ cx
      go_wp2
      go_ret
      exact ⟨rfl, HB4.out⟩
    · rw [decide_eq_false hI]
      have hE : Hid (false = Z) := by
        have h := HZ1.out
        have hlen : recs.length = rl3 := HLEN.out
        simp only [countsR] at h
        rw [decide_eq_false (show ¬ (first ≤ a ∧ a ≤ first + (recs.length : Int) - 1) by omega), Bool.false_and] at h
        exact h
      clear hI HZ1 HWC
      go_wp2
      go_ret
      exact ⟨ret_bool hE.out, HB3.out⟩
end Go.Proofs.YtdepaeajfldfbaaGreatDoor
