import Derived.Test.YtahccighonddaaaGreatDoorFabD
import Derived.Test.YtahccighonddaaaGreatDoorFabRings
import Derived.Test.YtahccighonddaaaGreatDoorFabEnds
import Derived.Deep.RegionLaw
namespace Go.Proofs.YtahccighonddaaaGreatDoor
open Go.RowKit Go.Maps
attribute [local go_sem ↓] Go.wp_at_zero Go.wp_at_succ
set_option linter.unusedSimpArgs false
def errs (w : World) : Prop := ∃ t v, w.cell? ⟨0, 0, none⟩ = some (.iface t v)
def NotRight (w : World) (x : Ending) : Prop := ∃ t v, w.cell? ⟨0, 0, none⟩ = some (.iface t v) ∧ x = .returned (.tuple #[.pointer none, .iface t v])
set_option maxRecDepth 100000 in
set_option maxHeartbeats 4000000 in
theorem impl_start_sizes (ra : Option Addr) (rl rc : Nat) (ea : Option Addr) (el ec : Nat) (ta : Option Addr) (tl tc : Nat) (now : Int) (w : World) (hr : rl ≤ 1048576) (he : el ≤ 1048576) (ht : tl ≤ 1048576) (hE : errs w) (h : ¬ (1 ≤ rl ∧ rl ≤ 4 ∧ el = 4 ∧ tl ≤ 12)) :
    Calls Tryz.prog 87 #[fabVal ra rl rc ea el ec ta tl tc now] w fun x w' => NotRight w x ∧ Below w.heap.size w w' := by
  have H0 : Hid (FB w (w.alloc (fabO ra rl rc ea el ec ta tl tc now)) (fabO ra rl rc ea el ec ta tl tc now)) := fb_new _ _ _
  have HE : Hid (errs w) := hE
  clear hE
  go_enter Tryz.func87, Tryz.ntmps87
  go_wp2_with fail
  refine (impl_sizes ra rl rc ea el ec ta tl tc now _ hr he ht).mono ?_
  rintro x v ⟨rfl, hbv⟩
  rw [decide_eq_false h]
  have H1 : Hid (FB w v (fabO ra rl rc ea el ec ta tl tc now)) := H0.out.under hbv
  obtain ⟨t, y, h0⟩ := HE.out
  have hc := cell_below h0 H1.out.bel
  have HC0 : Hid (w.cell? ⟨0, 0, none⟩ = some (.iface t y)) := h0
  clear h0
  clear hbv H0 h
  go_wp2
  go_quiet (first | (fail))
  go_wp2
  exact bodyPost_ret (v := .tuple #[.pointer none, .iface t y]) (by simp [results, Tryz.results87, go_sem]) rfl ⟨⟨t, y, HC0.out, rfl⟩, tbelow_dn H1.out.bel _⟩
theorem tfit_off {w : World} {t : TD} (h : TFit w t) {X : Nat} (hX : w.heap.size ≤ X) : t.off X := ⟨fun x e he => by have := h.r.lt x e; omega, fun x e he => by have := h.l.lt x e; omega⟩
theorem rfit_off {w : World} {r : RD} (h : r.fit w) {X : Nat} (hX : w.heap.size ≤ X) : r.off X := ⟨fun x e he => by have := h.str.lt x e; omega, fun x e he => by have := h.cur.lt x e; omega⟩
structure BG (w v : World) (fo : Obj) (B M : Nat) (ta : Option Addr) (tl tc : Nat) (ra : Option Addr) (rl rc : Nat) (ea : Option Addr) (el ec : Nat) (now began : Int) (ts : List TD) (rs : List RD) (es : List Int) : Prop where
  f : v.heap[w.heap.size]? = some fo
  k : WK w.heap.size v B M ta tl tc ra rl rc ea el ec now began 0 ts rs es tl (openD ts tl)
  ft : ∀ t ∈ ts, TFit w t
  fr : ∀ r ∈ rs, r.fit w
  lo : w.heap.size < B
  bel : Below w.heap.size w v
section
variable {w u v : World} {fo : Obj} {B M : Nat} {ta : Option Addr} {tl tc : Nat} {ra : Option Addr} {rl rc : Nat} {ea : Option Addr} {el ec : Nat} {now began : Int} {ts : List TD} {rs : List RD} {es : List Int}
theorem wk_of {m : Nat} {D : DataW Unit} {puts : Int} (hbel : Below w.heap.size w v) (hb : v.heap[B]? = some (workO ta tl tc M ra rl rc ea el ec now began puts)) (hm : v.ownsMap Tryz.prog 2 (plainElem Tryz.prog 3) M m D)
    (ht : v.ownsRow w.heap.size 59 6 (.slice ta tl tc) tl (tdCells ts)) (hr : v.ownsRow w.heap.size 63 4 (.slice ra rl rc) rl (rdCells rs)) (he : v.ownsRow w.heap.size 2 1 (.slice ea el ec) el (numCells es))
    (ft : ∀ t ∈ ts, TFit w t) (fr : ∀ r ∈ rs, r.fit w) (lb : w.heap.size ≤ B) (lm : w.heap.size ≤ M) : WK w.heap.size v B M ta tl tc ra rl rc ea el ec now began puts ts rs es m D := by
  have hX : ∀ X, Mine B M ta ra ea X → w.heap.size ≤ X := fun X hX => by
    rcases hX with rfl | rfl | hX | hX | hX
    · exact lb
    · exact lm
    · exact (own_blk_lt ht hX).1
    · exact (own_blk_lt hr hX).1
    · exact (own_blk_lt he hX).1
  exact ⟨hb, hm, ht, hr, he, fun t h => (ft t h).below hbel, fun r h => (fr r h).below hbel, fun t h X hx => tfit_off (ft t h) (hX X hx), fun r h X hx => rfit_off (fr r h) (hX X hx), lb, lm⟩
theorem BG.under (h : BG w u fo B M ta tl tc ra rl rc ea el ec now began ts rs es) (hb : Below u.heap.size u v) : BG w v fo B M ta tl tc ra rl rc ea el ec now began ts rs es :=
  ⟨(hb.block _ (fb_lt h.f)).trans h.f, h.k.under hb, h.ft, h.fr, h.lo, below_tr h.bel hb⟩
theorem BG.start {o : Obj} {base : Nat} (hf : v.heap[w.heap.size]? = some fo) (ht : v.ownsRow base 59 6 (.slice ta tl tc) tl (tdCells ts)) (hbase : w.heap.size ≤ base) (ft : ∀ t ∈ ts, TFit w t) (hm : v.ownsMap Tryz.prog 2 (plainElem Tryz.prog 3) M tl (openD ts tl)) (hM : w.heap.size ≤ M) (hb : Below w.heap.size w v) (ho : o = workO ta tl tc M none 0 0 none 0 0 now 0 0) :
    BG w (v.alloc o) fo v.heap.size M ta tl tc none 0 0 none 0 0 now 0 ts [] [] := by
  subst ho
  have hb1 := fbelow_new v (workO ta tl tc M none 0 0 none 0 0 now 0 0)
  have hlt := fb_lt hf
  exact ⟨(hb1.block _ hlt).trans hf, wk_of (below_tr hb hb1) (heap_alloc_new _ _) (hm.alloc _) (own_base (ht.alloc _) hbase) (World.ownsRow_nil _ _ _ _) (World.ownsRow_nil _ _ _ _) ft (fun r hr => by cases hr) (Nat.le_of_lt hlt) hM, ft, fun r hr => (by cases hr), hlt, below_tr hb hb1⟩
theorem BG.rings {a1 : Option Addr} {c1 base n : Nat} (h : BG w u fo B M ta tl tc none 0 0 none 0 0 now 0 ts [] []) (hg : u.grownBy v none) (ho : v.ownsRow base 63 4 (.slice a1 n c1) n (rdCells rs)) (hB : B < base) (hf : ∀ r ∈ rs, r.fit w) :
    v.heap[B]? = some (workO ta tl tc M none 0 0 none 0 0 now 0 0) ∧ BG w (v.setCell ⟨B, 2, none⟩ (.slice a1 n c1)) fo B M ta tl tc a1 n c1 none 0 0 now 0 ts rs [] := by
  have h1 := h.under (below_of_grown hg)
  obtain ⟨k1, k3⟩ := h1.k.box 2 (.slice a1 n c1)
  have k2 := h1.bel.setCell (p := ⟨B, 2, none⟩) (Nat.le_of_lt h1.lo) (.slice a1 n c1)
  exact ⟨h1.k.b, (k1.block _ (fb_lt h1.f) (by have := h1.lo; simp; omega)).trans h1.f, wk_of k2 k3 (h1.k.m.kept k1 (by have := h1.k.bm; simp; omega)) (own_keep h1.k.t k1 (.inr (own_ne h1.k.t h1.k.b (by decide)))) (own_base (ownsRow_setCell_below ho (a := ⟨B, 2, none⟩) hB _) (Nat.le_of_lt (Nat.lt_trans h1.lo hB))) (World.ownsRow_nil _ _ _ _) h1.ft hf h1.k.lb h1.k.lm, h1.ft, hf, h1.lo, k2⟩
theorem BG.eps {a1 : Option Addr} {c1 base n : Nat} (h : BG w u fo B M ta tl tc ra rl rc none 0 0 now 0 ts rs []) (hg : u.grownBy v none) (ho : v.ownsRow base 2 1 (.slice a1 n c1) n (numCells es)) (hB : B < base) :
    v.heap[B]? = some (workO ta tl tc M ra rl rc none 0 0 now 0 0) ∧ BG w (v.setCell ⟨B, 3, none⟩ (.slice a1 n c1)) fo B M ta tl tc ra rl rc a1 n c1 now 0 ts rs es := by
  have h1 := h.under (below_of_grown hg)
  obtain ⟨k1, k3⟩ := h1.k.box 3 (.slice a1 n c1)
  have k2 := h1.bel.setCell (p := ⟨B, 3, none⟩) (Nat.le_of_lt h1.lo) (.slice a1 n c1)
  exact ⟨h1.k.b, (k1.block _ (fb_lt h1.f) (by have := h1.lo; simp; omega)).trans h1.f, wk_of k2 k3 (h1.k.m.kept k1 (by have := h1.k.bm; simp; omega)) (own_keep h1.k.t k1 (.inr (own_ne h1.k.t h1.k.b (by decide)))) (own_keep h1.k.r k1 (.inr (own_ne h1.k.r h1.k.b (by decide)))) (own_base (ownsRow_setCell_below ho (a := ⟨B, 3, none⟩) hB _) (Nat.le_of_lt (Nat.lt_trans h1.lo hB))) h1.ft h1.fr h1.k.lb h1.k.lm, h1.ft, h1.fr, h1.lo, k2⟩
theorem BG.setBegan (h : BG w u fo B M ta tl tc ra rl rc ea el ec now began ts rs es) (y : Int) : BG w (u.setCell ⟨B, 5, none⟩ (.int .i64 y)) fo B M ta tl tc ra rl rc ea el ec now y ts rs es := by
  obtain ⟨k1, k3⟩ := h.k.box 5 (.int .i64 y)
  exact ⟨(k1.block _ (fb_lt h.f) (by have := h.lo; simp; omega)).trans h.f, h.k.put k1 k3, h.ft, h.fr, h.lo, h.bel.setCell (p := ⟨B, 5, none⟩) (Nat.le_of_lt h.lo) _⟩
end
def Started (lo : Nat) (w' : World) (x : Ending) (rl tl : Nat) (now : Int) (rs : List RD) (es : List Int) (ts : List TD) : Prop :=
  ∃ (B M : Nat) (ta : Option Addr) (tc : Nat) (ra : Option Addr) (rc : Nat) (ea : Option Addr) (ec : Nat), x = .returned (.tuple #[.pointer (some ⟨B, 0, none⟩), .nilIface]) ∧
    Hid (WK lo w' B M ta tl tc ra rl rc ea 4 ec now (endSum rs) 0 ts rs es tl (openD ts tl))
theorem sizes_rl (w : World) (ra : Option Addr) (rl : Nat) (ea : Option Addr) (el : Nat) (ta : Option Addr) (tl : Nat) (rs : List RD) (es : List Int) (ts : List TD) (now : Int) (hi : FIn w ra rl ea el ta tl rs es ts) (h : ¬ (1 ≤ rl ∧ rl ≤ 4 ∧ el = 4 ∧ tl ≤ 12)) : fabRightB rs es ts now = false := by
  have h1 := hi.rs.1
  have h2 := hi.es.1
  have h3 := hi.ts.1
  have : fabSizesB rs es ts = false := decide_eq_false (by rw [h1, h2, h3]; exact h)
  simp [fabRightB, this]
theorem fab_parts {rs : List RD} {es : List Int} {ts : List TD} {now : Int} (hs : 1 ≤ rs.length ∧ rs.length ≤ 4 ∧ es.length = 4 ∧ ts.length ≤ 12) : fabRightB rs es ts now = ((es.all timeB && timeB now) && txnsFitB es rs.length now ts && ringsFitB ts rs) := by
  have : fabSizesB rs es ts = true := decide_eq_true hs
  unfold fabRightB
  rw [this, Bool.true_and, Bool.and_comm (timeB now)]
theorem fits_up {es : List Int} {n : Nat} {now : Int} {ts : List TD} (h : txnsFitB es n now ts = true) : ∀ t ∈ ts, upB t.rs = true ∧ upB t.ls = true := fun t ht => by
  simp only [txnsFitB, Bool.and_eq_true, List.all_eq_true] at h
  have h1 := h.1 t ht
  simp only [txnFitB, Bool.and_eq_true] at h1
  have h2 := txnRight_bnd h1.1.1.1
  have h3 := h2.2.2.2.2.1
  have h4 := h2.2.2.2.2.2
  simp only [ringsB, Bool.and_eq_true] at h3 h4
  exact ⟨h3.2, h4.2⟩
theorem fit_firsts {ts : List TD} {rs : List RD} (h : ringsFitB ts rs = true) : ∀ r ∈ rs, 0 ≤ r.first ∧ r.first ≤ 1000000 := fun r hr => by
  obtain ⟨i, hi, rfl⟩ := List.getElem_of_mem hr
  have h1 := of_decide_eq_true h i hi hi
  simp only [ringFitB, Bool.and_eq_true] at h1
  have h2 : ringRightB rs[i].cap rs[i].first rs[i].recs rs[i].curs = true := by simp_all
  exact (right_first h2).1
end Go.Proofs.YtahccighonddaaaGreatDoor
namespace Go.Proofs.YtahccighonddaaaGreatDoor
open Go.RowKit Go.Maps
attribute [local go_sem ↓] Go.wp_at_zero Go.wp_at_succ
set_option linter.unusedSimpArgs false
set_option maxRecDepth 100000 in
set_option maxHeartbeats 8000000 in
theorem impl_startWork (ra : Option Addr) (rl rc : Nat) (ea : Option Addr) (el ec : Nat) (ta : Option Addr) (tl tc : Nat) (now : Int) (rs : List RD) (es : List Int) (ts : List TD) (w : World) (hi : FIn w ra rl ea el ta tl rs es ts) (hU : utabs w) (hE : errs w)
    (hnr : ra = none → rl = 0 ∧ rc = 0) (hne : ea = none → el = 0 ∧ ec = 0) (hnt : ta = none → tl = 0 ∧ tc = 0) :
    Calls Tryz.prog 87 #[fabVal ra rl rc ea el ec ta tl tc now] w fun x w' => ((fabRightB rs es ts now = true → Started w.heap.size w' x rl tl now rs es ts) ∧ (fabRightB rs es ts now = false → NotRight w x)) ∧ Below w.heap.size w w' := by
  by_cases h : 1 ≤ rl ∧ rl ≤ 4 ∧ el = 4 ∧ tl ≤ 12
  case neg =>
    have hR := sizes_rl w ra rl ea el ta tl rs es ts now hi h
    refine (impl_start_sizes ra rl rc ea el ec ta tl tc now w hi.rle hi.ele hi.tle hE h).mono ?_
    rintro x w' ⟨hx, hb⟩
    exact ⟨⟨(fun e => by rw [hR] at e; cases e), fun _ => hx⟩, hb⟩
  have HI : Hid (FIn w ra rl ea el ta tl rs es ts) := hi
  have HP : Hid (fabRightB rs es ts now = ((es.all timeB && timeB now) && txnsFitB es rl now ts && ringsFitB ts rs)) := show _ = _ by
    have h1 := hi.rs.1
    have h2 := hi.es.1
    have h3 := hi.ts.1
    rw [fab_parts (by rw [h1, h2, h3]; exact h), h1]
  have HLR : Hid (rs.length = rl) := hi.rs.1
  have HLE : Hid (es.length = el) := hi.es.1
  obtain ⟨i0, hi0, hz0, hz1, hz2⟩ := info_parts info_ringF
  obtain ⟨j0, hj0, hy0, hy1, hy2⟩ := info_parts info_i64
  have H0 : Hid (FB w (w.alloc (fabO ra rl rc ea el ec ta tl tc now)) (fabO ra rl rc ea el ec ta tl tc now)) := fb_new _ _ _
  have HE : Hid (errs w) := hE
  have HU : Hid (utabs w) := hU
  have hrl := hi.rle
  have hel := hi.ele
  have htl := hi.tle
  have HN : Hid ((ra = none → rl = 0 ∧ rc = 0) ∧ (ea = none → el = 0 ∧ ec = 0) ∧ (ta = none → tl = 0 ∧ tc = 0)) := ⟨hnr, hne, hnt⟩
  have HS : Hid (1 ≤ rl ∧ rl ≤ 4 ∧ el = 4 ∧ tl ≤ 12) := h
  clear hE hU hi hnr hne hnt h
  go_enter Tryz.func87, Tryz.ntmps87
  go_wp2_with fail
  refine (impl_sizes ra rl rc ea el ec ta tl tc now _ hrl hel htl).mono ?_
  rintro x v ⟨rfl, hbv⟩
  rw [decide_eq_true HS.out]
  obtain ⟨h1, h4, h44, h12⟩ := HS.out
  subst h44
  clear HS
  have H1 : Hid (FB w v (fabO ra rl rc ea 4 ec ta tl tc now)) := H0.out.under hbv
  clear hbv H0
  have cf := fun o => fb_cell H1.out.box o
  have HT1 : Hid (Txs v.drew ta tl ts) := txs_below HI.out.ts H1.out.bel.drew
  go_upto_region 3 with fail
  go_cut [4] (fun s wc => ∃ (B M : Nat) (a2 : Option Addr) (c2 : Nat), s = .pointer (some ⟨B, 0, none⟩) ∧ Hid (BG w wc (fabO ra rl rc ea 4 ec ta tl tc now) B M a2 tl c2 none 0 0 none 0 0 now 0 ts [] []))
  case first =>
    go_region_with (first | (go_at_call 132; refine (impl_txnsOf ta tl tc ts _ HT1.out h12 HN.out.2.2).mono ?_; rintro x v2 ⟨a2, c2, rfl, ht2, hm2, hb2⟩; have HZ2 : Hid (w.heap.size ≤ v.drew.heap.size) := H1.out.bel.size; have H2 : Hid (FB w v2 (fabO ra rl rc ea 4 ec ta tl tc now)) := (H1.out.under ((Below.refl _ _).drew)).under hb2; have cf2 := fun o => fb_cell H2.out.box o; clear hb2))
    all_goals (go_wp2_with fail; go_meet; exact ⟨_, _, a2, c2, rfl, BG.start H2.out.box ht2.out (Nat.le_trans HZ2.out (Nat.le_add_right _ _)) (txs_fits HI.out.ts) hm2.out (Nat.le_trans HZ2.out (Nat.le_add_right _ _)) H2.out.bel rfl⟩)
  case rest =>
  obtain ⟨B, M, a2, c2, rfl, hG⟩ := hcut
  clear H1 cf HT1
  have cf := fun o => fb_cell hG.out.f o
  have cb := fun o => fb_cell hG.out.k.b o
  have fb := fun o => unfrozen_of_block0 hG.out.k.b o
  go_upto_region 4 with fail
  go_cut [] (fun wd => ∃ (a3 : Option Addr) (c3 : Nat), Hid (BG w wd (fabO ra rl rc ea 4 ec ta tl tc now) B M a2 tl c2 a3 rl c3 none 0 0 now 0 ts rs []))
  case first =>
    go_region_law (first
      | (refine step_append_own_any (by rfl) _ _ 28 (by rfl) wc.heap.size 63 i0 _ 4 64 Tryz.underlying28 hi0 hz0 hz1 hz2 (by rfl) (by omega) (.slice none 0 0) 0 [] (by rfl) (World.ownsRow_nil _ _ _ _) ra rl rc (rdCells rs) (by rfl) (by rw [rdCells_length, HLR.out]) HN.out.1 (rngs_news (rngs_below HI.out.rs hG.out.bel.drew)) (rdCells_one _) (by unfold maxLen; omega) (by omega) (Nat.le_refl _) ?_; intro v1 w2 ho2 hg2; simp only [Nat.zero_add, List.nil_append] at ho2; obtain ⟨a3, c3, rfl⟩ := own_rgV ho2; have hst := BG.rings (hG.out.under ((Below.refl _ _).drew)) hg2 ho2 (fb_lt hG.out.k.b) (rngs_fits HI.out.rs); have cb3 := fun o => fb_cell hst.1 o; have fb3 := fun o => unfrozen_of_block0 hst.1 o; have HST : Hid _ := hst.2; clear hg2 ho2 hst))
    all_goals (go_wp2_with fail; go_meet; exact ⟨a3, c3, HST.out⟩)
  case rest =>
  obtain ⟨a3, c3, hG3⟩ := hcut
  clear hG cf cb fb
  have cf := fun o => fb_cell hG3.out.f o
  have cb := fun o => fb_cell hG3.out.k.b o
  have fb := fun o => unfrozen_of_block0 hG3.out.k.b o
  go_upto_region 5 with fail
  go_cut [] (fun we => ∃ (a4 : Option Addr) (c4 : Nat), Hid (BG w we (fabO ra rl rc ea 4 ec ta tl tc now) B M a2 tl c2 a3 rl c3 a4 4 c4 now 0 ts rs es))
  case first =>
    go_region_law (first
      | (refine step_append_own_any (by rfl) _ _ 23 (by rfl) wc.heap.size 2 j0 _ 1 8 Tryz.underlying23 hj0 hy0 hy1 hy2 (by rfl) (by omega) (.slice none 0 0) 0 [] (by rfl) (World.ownsRow_nil _ _ _ _) ea 4 ec (numCells es) (by rfl) (by rw [List.length_map, HLE.out, Nat.mul_one]) HN.out.2.1 (nums_news (nums_below HI.out.es hG3.out.bel.drew)) (numCells_one _) (by unfold maxLen; omega) (by omega) (Nat.le_refl _) ?_; intro v1 w2 ho2 hg2; simp only [Nat.zero_add, List.nil_append] at ho2; obtain ⟨a4, c4, rfl, _⟩ := own_numIn ho2; have hst := BG.eps (hG3.out.under ((Below.refl _ _).drew)) hg2 ho2 (fb_lt hG3.out.k.b); have cb3 := fun o => fb_cell hst.1 o; have fb3 := fun o => unfrozen_of_block0 hst.1 o; have HST : Hid _ := hst.2; clear hg2 ho2 hst))
    all_goals (go_wp2_with fail; go_meet; exact ⟨a4, c4, HST.out⟩)
  case rest =>
  obtain ⟨a4, c4, hG4⟩ := hcut
  clear hG3 cf cb fb
  go_wp2_with fail
  refine (impl_numbersRight es _ hG4.out.k.b hG4.out.k.nums (by omega)).mono ?_
  rintro x v1 ⟨rfl, hv1⟩
  rw [hv1]
  clear hv1 v1
  cases hA : (es.all timeB && timeB now) with
  | false =>
    have hR : Hid (fabRightB rs es ts now = false) := show _ = _ by rw [HP.out, hA]; rfl
    obtain ⟨t, y, h0⟩ := HE.out
    have hc := cell_below h0 hG4.out.bel
    have HC0 : Hid (w.cell? ⟨0, 0, none⟩ = some (.iface t y)) := h0
    clear h0
    clear hA HP
    go_wp2
    go_quiet (first | (fail))
    go_wp2
    exact bodyPost_ret (v := .tuple #[.pointer none, .iface t y]) (by simp [results, Tryz.results87, go_sem]) rfl ⟨⟨(fun e => by rw [hR.out] at e; cases e), fun _ => ⟨t, y, HC0.out, rfl⟩⟩, tbelow_dn hG4.out.bel _⟩
  | true =>
  have HA : Hid ((es.all timeB && timeB now) = true) := hA
  clear hA
  go_wp2_with fail
  refine (impl_txnsRight es ts _ ⟨hG4.out.k.b, hG4.out.k.m, hG4.out.k.nums⟩ hG4.out.k.txs (by omega) (by omega)).mono ?_
  rintro x v2 ⟨rfl, hb2⟩
  have hG5 : Hid (BG w v2 (fabO ra rl rc ea 4 ec ta tl tc now) B M a2 tl c2 a3 rl c3 a4 4 c4 now 0 ts rs es) := hG4.out.under hb2
  clear hb2 hG4
  cases hB : txnsFitB es rl now ts with
  | false =>
    have hR : Hid (fabRightB rs es ts now = false) := show _ = _ by rw [HP.out, HA.out, hB]; rfl
    obtain ⟨t, y, h0⟩ := HE.out
    have hc := cell_below h0 hG5.out.bel
    have HC0 : Hid (w.cell? ⟨0, 0, none⟩ = some (.iface t y)) := h0
    clear h0
    clear hB HP
    go_wp2
    go_quiet (first | (fail))
    go_wp2
    exact bodyPost_ret (v := .tuple #[.pointer none, .iface t y]) (by simp [results, Tryz.results87, go_sem]) rfl ⟨⟨(fun e => by rw [hR.out] at e; cases e), fun _ => ⟨t, y, HC0.out, rfl⟩⟩, tbelow_dn hG5.out.bel _⟩
  | true =>
  have HB : Hid (txnsFitB es rl now ts = true) := hB
  clear hB
  go_wp2_with fail
  refine (impl_ringsRight rs ts _ hG5.out.k.b hG5.out.k.rngs hG5.out.k.txs (fits_up HB.out) (utabs_below HU.out hG5.out.bel) (by omega) (by omega)).mono ?_
  rintro x v3 ⟨rfl, hb3⟩
  have hG6 : Hid (BG w v3 (fabO ra rl rc ea 4 ec ta tl tc now) B M a2 tl c2 a3 rl c3 a4 4 c4 now 0 ts rs es) := hG5.out.under hb3
  clear hb3 hG5
  cases hC : ringsFitB ts rs with
  | false =>
    have hR : Hid (fabRightB rs es ts now = false) := show _ = _ by rw [HP.out, HA.out, HB.out, hC]; rfl
    obtain ⟨t, y, h0⟩ := HE.out
    have hc := cell_below h0 hG6.out.bel
    have HC0 : Hid (w.cell? ⟨0, 0, none⟩ = some (.iface t y)) := h0
    clear h0
    clear hC HP
    go_wp2
    go_quiet (first | (fail))
    go_wp2
    exact bodyPost_ret (v := .tuple #[.pointer none, .iface t y]) (by simp [results, Tryz.results87, go_sem]) rfl ⟨⟨(fun e => by rw [hR.out] at e; cases e), fun _ => ⟨t, y, HC0.out, rfl⟩⟩, tbelow_dn hG6.out.bel _⟩
  | true =>
  have hR : Hid (fabRightB rs es ts now = true) := show _ = _ by rw [HP.out, HA.out, HB.out, hC]; rfl
  have HC : Hid (ringsFitB ts rs = true) := hC
  clear hC HP
  go_wp2_with fail
  refine (impl_sumOfEnds rs _ hG6.out.k.b hG6.out.k.rngs h4 (fit_firsts HC.out)).mono ?_
  rintro x v4 ⟨rfl, hb4⟩
  have hG7 : Hid (BG w v4 (fabO ra rl rc ea 4 ec ta tl tc now) B M a2 tl c2 a3 rl c3 a4 4 c4 now 0 ts rs es) := hG6.out.under hb4
  clear hb4 hG6
  have cb := fun o => fb_cell hG7.out.k.b o
  have fb := fun o => unfrozen_of_block0 hG7.out.k.b o
  have hG8 : Hid (BG w (v4.setCell ⟨B, 5, none⟩ (.int .i64 (endSum rs))) (fabO ra rl rc ea 4 ec ta tl tc now) B M a2 tl c2 a3 rl c3 a4 4 c4 now (endSum rs) ts rs es) := hG7.out.setBegan _
  go_wp2
  exact bodyPost_ret (v := .tuple #[.pointer (some ⟨B, 0, none⟩), .nilIface]) (by simp [results, Tryz.results87, go_sem]) rfl ⟨⟨fun _ => ⟨B, M, a2, c2, a3, c3, a4, c4, rfl, hG8.out.k⟩, (fun e => by rw [hR.out] at e; cases e)⟩, hG8.out.bel⟩
end Go.Proofs.YtahccighonddaaaGreatDoor
