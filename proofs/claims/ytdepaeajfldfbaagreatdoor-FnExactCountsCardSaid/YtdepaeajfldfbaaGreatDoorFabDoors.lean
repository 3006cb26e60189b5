import Derived.Test.YtdepaeajfldfbaaGreatDoorSpecFab3
import Derived.Test.YtdepaeajfldfbaaGreatDoorLawFab4
import Derived.Test.YtdepaeajfldfbaaGreatDoorFabRings
import Derived.Deep.RegionLaw
import Derived.Test.YtdepaeajfldfbaaGreatDoorSpecFab5
import Derived.Stop.IfaceNil
/- The program's fabric at work: where all rings end, put together. -/
namespace Go.Proofs.YtdepaeajfldfbaaGreatDoor
open Go.RowKit
attribute [local go_sem ↓] Go.wp_at_zero Go.wp_at_succ
variable {B : Nat} {ta : Option Addr} {tl tc M : Nat} {ra : Option Addr} {rl rc : Nat} {ea : Option Addr} {el ec : Nat} {now began puts : Int}

/-- Where all rings end, put together. -/
def endSum (rs : List RD) : Int := (rs.map fun r => r.first + (r.rl : Int)).sum
theorem endSum_succ {rs : List RD} {k : Nat} {r : RD} (h : rs[k]? = some r) : endSum (rs.take (k + 1)) = endSum (rs.take k) + (r.first + (r.rl : Int)) := by
  obtain ⟨hj, e⟩ := List.getElem?_eq_some_iff.1 h
  rw [List.take_succ_eq_append_getElem hj, e]
  simp [endSum]
set_option maxHeartbeats 2000000 in
theorem impl_sumOfEnds (rs : List RD) (w : World) (hb : w.heap[B]? = some (workO ta tl tc M ra rl rc ea el ec now began puts)) (hr : Rngs w ra rl rs) (hrl : rl ≤ 4) (hF : ∀ r ∈ rs, 0 ≤ r.first ∧ r.first ≤ 1000000) :
    Calls Tryz.prog 81 #[.pointer (some ⟨B, 0, none⟩)] w fun x w' => x = .returned (.int .i64 (endSum rs)) ∧ Below w.heap.size w w' := by
  have cf := fun o => fb_cell hb o
  have HR : Hid (Rngs w ra rl rs) := hr
  have HL : Hid (rs.length = rl) := hr.1
  have HF : Hid (∀ r ∈ rs, 0 ≤ r.first ∧ r.first ≤ 1000000) := hF
  clear hb hr hF
  go_enter Tryz.func81, Tryz.ntmps81
  go_wp2
  clear cf
  go_loopw [3, 11] (fun n i wr => ∃ (k : Nat) (x : Int), k ≤ rl ∧ (0 ≤ x ∧ x ≤ k * 2048576) ∧ i = .int .i64 k ∧ n = .int .i64 x ∧ Hid (x = endSum (rs.take k)) ∧ Hid (Below w.heap.size w wr)) (fun _ i _ => rl - (intOf i).toNat)
  case atStart => exact ⟨0, 0, by omega, by omega, rfl, rfl, show _ = _ by simp [endSum], Below.refl _ _⟩
  case round =>
    obtain ⟨k, x, hk, hx, rfl, rfl, hn, hw⟩ := hrel
    by_cases hlt : k < rl
    · obtain ⟨b, off, r, rfl, e1, g0, g1, g2, g3, hf⟩ := rngsG_at keeps_fit HR.out hw.out hlt
      have hle : r.rl ≤ 1048576 := hf.out.rle
      have hfr := HF.out r (List.mem_of_getElem? e1)
      have HN : Hid (x + (r.first + (r.rl : Int)) = endSum (rs.take (k + 1))) := show _ = _ by rw [endSum_succ e1, ← hn.out]
      have HW : Hid (Below w.heap.size w (wr.alloc r.obj)) := below_tr hw.out (fbelow_new _ _)
      clear e1 hn hf hw
      have hwr : IntKind.i64.wrap (x + (r.first + (r.rl : Int))) = x + (r.first + (r.rl : Int)) := twrap_in _ (by omega) (by omega)
      go_wp2_with fail
      refine (impl_atWork (cap := r.cap) (first := r.first) (ra := r.ra) (rl := r.rl) (rc := r.rc) (ca := r.ca) (cl := r.cl) (cc := r.cc) _).mono ?_
      rintro e v ⟨rfl, hbv, hwk, hsz⟩
      have HW1 : Hid (Below w.heap.size w v) := below_tr HW.out hbv
      obtain ⟨X, hX⟩ : ∃ X, (wr.alloc r.obj).heap.size + 1 = X := ⟨_, rfl⟩
      have HK : Hid (Work v X r.cap r.first r.ra r.rl r.rc r.ca r.cl r.cc 0 0 0) := hX ▸ hwk
      rw [hX]
      clear hX hbv hwk hsz HW g0 g1 g2 g3
      go_wp2_with fail
      refine (impl_end X 0 0 0 v HK.out hfr hle).mono ?_
      rintro e v2 ⟨rfl, hb2⟩
      have HW2 : Hid (Below w.heap.size w v2) := below_tr HW1.out hb2
      clear hb2 HK HW1
      go_wp2
      exact ⟨⟨k + 1, x + (r.first + (r.rl : Int)), by omega, by omega, by go_num, by go_num, HN.out, HW2.out⟩, by simp [intOf]; omega⟩
    · have hE : Hid (x = endSum rs) := by
        have h := hn.out
        rw [List.take_of_length_le (by rw [HL.out]; omega)] at h
        exact h
      go_wp2
      go_ret
      exact ⟨ret_int (by rw [hE.out]), hw.out⟩
end Go.Proofs.YtdepaeajfldfbaaGreatDoor
/- A fabric at work as memory of its own: its box, its map, its three lists. -/
namespace Go.Proofs.YtdepaeajfldfbaaGreatDoor
open Go.RowKit Go.Maps

/-- The block in which a list lies. -/
def blk? (a : Option Addr) : Option Nat := a.map Addr.block
theorem ownBlock_slice (a : Option Addr) (n c : Nat) : (Value.slice a n c).ownBlock = blk? a := by cases a <;> rfl
/-- A row of one's own lies in no block of another type. -/
theorem own_ne {w : World} {base size n c B : Nat} {e T : TypeId} {a : Option Addr} {xs : List Value} {C : Array Value} (h : w.ownsRow base e size (.slice a n c) n xs) (hB : w.heap[B]? = some (.cells C T (0, 0))) (hne : e ≠ T) : blk? a ≠ some B := by
  intro hb
  rcases h.2 with ⟨e1, _⟩ | ⟨g, cap, cur, e1, _, hg, _⟩
  · simp only [Value.slice.injEq] at e1
    rw [e1.1] at hb
    cases hb
  · simp only [Value.slice.injEq] at e1
    rw [e1.1] at hb
    simp [blk?] at hb
    subst hb
    rw [hg] at hB
    cases hB
    exact hne rfl
theorem own_ne_map {w : World} {base size n c M m : Nat} {e k : TypeId} {P : Program} {R : Value → Option (DataW Unit × List MemPlace)} {D : DataW Unit} {a : Option Addr} {xs : List Value} (h : w.ownsRow base e size (.slice a n c) n xs) (hM : w.ownsMap P k R M m D) : blk? a ≠ some M := by
  intro hb
  obtain ⟨es, clock, hm, _⟩ := hM
  rcases h.2 with ⟨e1, _⟩ | ⟨g, cap, cur, e1, _, hg, _⟩
  · simp only [Value.slice.injEq] at e1
    rw [e1.1] at hb
    cases hb
  · simp only [Value.slice.injEq] at e1
    rw [e1.1] at hb
    simp [blk?] at hb
    subst hb
    rw [hg] at hm
    cases hm
theorem own_ne_own {w : World} {base base' size size' n n' c c' : Nat} {e e' : TypeId} {a a' : Option Addr} {xs xs' : List Value} (h : w.ownsRow base e size (.slice a n c) n xs) (h' : w.ownsRow base' e' size' (.slice a' n' c') n' xs') (hne : e ≠ e') {X : Nat} (hX : blk? a = some X) : blk? a' ≠ some X := by
  rcases h.2 with ⟨e1, _⟩ | ⟨g, cap, cur, e1, _, hg, _⟩
  · simp only [Value.slice.injEq] at e1
    rw [e1.1] at hX
    cases hX
  · simp only [Value.slice.injEq] at e1
    rw [e1.1] at hX
    simp [blk?] at hX
    subst hX
    exact own_ne h' hg (fun hh => hne hh.symm)
theorem own_keep {w w' : World} {base size n c : Nat} {e : TypeId} {a : Option Addr} {xs : List Value} {row : Option Nat} (h : w.ownsRow base e size (.slice a n c) n xs) (hg : w.grownBy w' row) (hne : row = none ∨ blk? a ≠ row) : w'.ownsRow base e size (.slice a n c) n xs :=
  h.kept hg (by
    rw [ownBlock_slice]
    by_cases hh : blk? a = none
    · exact .inl hh
    · rcases hne with rfl | hne
      · exact .inr hh
      · exact .inr hne)
theorem own_below {w w' : World} {base size n : Nat} {e : TypeId} {v : Value} {xs : List Value} (h : w.ownsRow base e size v n xs) (hb : Below w.heap.size w w') : w'.ownsRow base e size v n xs :=
  h.kept (tbelow_grown hb) (by by_cases hh : v.ownBlock = none; exact .inl hh; exact .inr hh)
theorem own_base {w : World} {base base' : Nat} {e : TypeId} {size : Nat} {v : Value} {n : Nat} {xs : List Value} (h : w.ownsRow base e size v n xs) (hb : base' ≤ base) : w.ownsRow base' e size v n xs := by
  refine ⟨h.1, ?_⟩
  rcases h.2 with hn | ⟨g, cap, cur, hv, hg, rest⟩
  · exact .inl hn
  · exact .inr ⟨g, cap, cur, hv, Nat.le_trans hb hg, rest⟩
theorem own_blk_lt {w : World} {base size n c : Nat} {e : TypeId} {a : Option Addr} {xs : List Value} (h : w.ownsRow base e size (.slice a n c) n xs) {X : Nat} (hX : blk? a = some X) : base ≤ X ∧ X < w.heap.size := h.lt X (by rw [ownBlock_slice]; exact hX)
/-- The blocks of a fabric at work that its lists' lists must not lie in. -/
def Mine (B : Nat) (ta ra ea : Option Addr) (X : Nat) : Prop := X = B ∨ blk? ta = some X ∨ blk? ra = some X ∨ blk? ea = some X
/-- A fabric at work: its box, its map, its lists, each its own, from lo on; what the lists' things hold lies elsewhere. -/
structure WK (lo : Nat) (v : World) (B M : Nat) (ta : Option Addr) (tl tc : Nat) (ra : Option Addr) (rl rc : Nat) (ea : Option Addr) (el ec : Nat) (now began puts : Int) (ts : List TD) (rs : List RD) (es : List Int) (m : Nat) (D : DataW Unit) : Prop where
  b : v.heap[B]? = some (workO ta tl tc M ra rl rc ea el ec now began puts)
  m : v.ownsMap Tryz.prog 2 (plainElem Tryz.prog 3) M m D
  t : v.ownsRow lo 79 6 (.slice ta tl tc) tl (tdCells ts)
  r : v.ownsRow lo 90 4 (.slice ra rl rc) rl (rdCells rs)
  e : v.ownsRow lo 2 1 (.slice ea el ec) el (numCells es)
  ft : ∀ t ∈ ts, TFit v t
  fr : ∀ r ∈ rs, r.fit v
  ot : ∀ t ∈ ts, ∀ X, Mine B ta ra ea X → t.off X
  or : ∀ r ∈ rs, ∀ X, Mine B ta ra ea X → r.off X
  lb : lo ≤ B
  lm : lo ≤ M
section
variable {lo : Nat} {u v : World} {B M : Nat} {ta : Option Addr} {tl tc : Nat} {ra : Option Addr} {rl rc : Nat} {ea : Option Addr} {el ec : Nat} {now began puts : Int} {ts : List TD} {rs : List RD} {es : List Int} {m : Nat} {D : DataW Unit}
theorem WK.txs (h : WK lo u B M ta tl tc ra rl rc ea el ec now began puts ts rs es m D) : Txs u ta tl ts := txs_own (Q := fun w t => TFit w t) h.t h.ft
theorem WK.rngs (h : WK lo u B M ta tl tc ra rl rc ea el ec now began puts ts rs es m D) : Rngs u ra rl rs := rngs_own (Q := fun w r => r.fit w) h.r h.fr
theorem WK.nums (h : WK lo u B M ta tl tc ra rl rc ea el ec now began puts ts rs es m D) : Nums u ea el es := own_nums h.e
theorem WK.bm (h : WK lo u B M ta tl tc ra rl rc ea el ec now began puts ts rs es m D) : B ≠ M := by
  intro e
  subst e
  obtain ⟨es', clock, hm, _⟩ := h.m
  rw [h.b] at hm
  cases hm
theorem WK.mine_lt (h : WK lo u B M ta tl tc ra rl rc ea el ec now began puts ts rs es m D) {X : Nat} (hX : Mine B ta ra ea X) : lo ≤ X ∧ X < u.heap.size := by
  rcases hX with rfl | hX | hX | hX
  · exact ⟨h.lb, fb_lt h.b⟩
  · exact own_blk_lt h.t hX
  · exact own_blk_lt h.r hX
  · exact own_blk_lt h.e hX
theorem WK.under (h : WK lo u B M ta tl tc ra rl rc ea el ec now began puts ts rs es m D) (hb : Below u.heap.size u v) : WK lo v B M ta tl tc ra rl rc ea el ec now began puts ts rs es m D :=
  ⟨(hb.block _ (fb_lt h.b)).trans h.b, h.m.kept (tbelow_grown hb) (by simp), own_below h.t hb, own_below h.r hb, own_below h.e hb, fun t ht => (h.ft t ht).below hb, fun r hr => (h.fr r hr).below hb, h.ot, h.or, h.lb, h.lm⟩
/-- The box is written: its lists and its map stay. -/
theorem WK.put {now' began' puts' : Int} (h : WK lo u B M ta tl tc ra rl rc ea el ec now began puts ts rs es m D) (hg : u.grownBy v (some B)) (hb : v.heap[B]? = some (workO ta tl tc M ra rl rc ea el ec now' began' puts')) : WK lo v B M ta tl tc ra rl rc ea el ec now' began' puts' ts rs es m D :=
  ⟨hb, h.m.kept hg (by have := h.bm; simp; omega), own_keep h.t hg (.inr (own_ne h.t h.b (by decide))), own_keep h.r hg (.inr (own_ne h.r h.b (by decide))), own_keep h.e hg (.inr (own_ne h.e h.b (by decide))),
    fun t ht => (h.ft t ht).grown hg (h.ot t ht B (.inl rfl)), fun r hr => (h.fr r hr).grown hg (h.or r hr B (.inl rfl)).1 (h.or r hr B (.inl rfl)).2, h.ot, h.or, h.lb, h.lm⟩
theorem WK.box (h : WK lo u B M ta tl tc ra rl rc ea el ec now began puts ts rs es m D) (i : Nat) (y : Value) : u.grownBy (u.setCell ⟨B, i, none⟩ y) (some B) ∧ (u.setCell ⟨B, i, none⟩ y).heap[B]? = some (.cells ((workC ta tl tc M ra rl rc ea el ec now began puts).set! i y) 73 (0, 0)) :=
  ⟨grown_setc u B i y, heap_setCell_same u B i _ _ y h.b⟩
end
end Go.Proofs.YtdepaeajfldfbaaGreatDoor
/- The program's fabric at work: begun. -/
namespace Go.Proofs.YtdepaeajfldfbaaGreatDoor
open Go.RowKit Go.Maps
attribute [local go_sem ↓] Go.wp_at_zero Go.wp_at_succ
set_option linter.unusedSimpArgs false

/-- The program's error stands where it was laid. -/
def errs (w : World) : Prop := ∃ t v, w.cell? ⟨0, 0, none⟩ = some (.iface t v)
theorem errs_below {w w' : World} (h : errs w) (hb : Below w.heap.size w w') : errs w' := by
  obtain ⟨t, v, h⟩ := h
  exact ⟨t, v, cell_below h hb⟩
/-- What is answered: nothing, and why not. -/
def NotRight (w : World) (x : Ending) : Prop := ∃ t v, w.cell? ⟨0, 0, none⟩ = some (.iface t v) ∧ x = .returned (.tuple #[.pointer none, .iface t v])
set_option maxRecDepth 100000 in
set_option maxHeartbeats 4000000 in
theorem impl_start_sizes (ra : Option Addr) (rl rc : Nat) (ea : Option Addr) (el ec : Nat) (ta : Option Addr) (tl tc : Nat) (now : Int) (w : World) (hr : rl ≤ 1048576) (he : el ≤ 1048576) (ht : tl ≤ 1048576) (hE : errs w) (h : ¬ (1 ≤ rl ∧ rl ≤ 4 ∧ el = 4 ∧ tl ≤ 12)) :
    Calls Tryz.prog 37 #[fabVal ra rl rc ea el ec ta tl tc now] w fun x w' => NotRight w x ∧ Below w.heap.size w w' := by
  have H0 : Hid (FB w (w.alloc (fabO ra rl rc ea el ec ta tl tc now)) (fabO ra rl rc ea el ec ta tl tc now)) := fb_new _ _ _
  have HE : Hid (errs w) := hE
  clear hE
  go_enter Tryz.func37, Tryz.ntmps37
  go_wp2_with fail
  refine (impl_sizes ra rl rc ea el ec ta tl tc now _ hr he ht).mono ?_
  rintro x v ⟨rfl, hbv⟩
  rw [decide_eq_false h]
  have H1 : Hid (FB w v (fabO ra rl rc ea el ec ta tl tc now)) := H0.out.under hbv
  obtain ⟨t, y, h0⟩ := HE.out
  have hc := cell_below h0 H1.out.bel
  have HC0 : Hid (w.cell? ⟨0, 0, none⟩ = some (.iface t y)) := h0
  clear h0
  clear hbv H0 h
  go_wp2
  go_quiet (first | (fail))
  go_wp2
  exact bodyPost_ret (v := .tuple #[.pointer none, .iface t y]) (by simp [results, Tryz.results37, go_sem]) rfl ⟨⟨t, y, HC0.out, rfl⟩, tbelow_dn H1.out.bel _⟩

theorem tfit_off {w : World} {t : TD} (h : TFit w t) {X : Nat} (hX : w.heap.size ≤ X) : t.off X := ⟨fun x e he => by have := h.r.lt x e; omega, fun x e he => by have := h.l.lt x e; omega⟩
theorem rfit_off {w : World} {r : RD} (h : r.fit w) {X : Nat} (hX : w.heap.size ≤ X) : r.off X := ⟨fun x e he => by have := h.str.lt x e; omega, fun x e he => by have := h.cur.lt x e; omega⟩
/-- What stands while a fabric is laid out for work. -/
structure BG (w v : World) (fo : Obj) (B M : Nat) (ta : Option Addr) (tl tc : Nat) (ra : Option Addr) (rl rc : Nat) (ea : Option Addr) (el ec : Nat) (now began : Int) (ts : List TD) (rs : List RD) (es : List Int) : Prop where
  f : v.heap[w.heap.size]? = some fo
  k : WK w.heap.size v B M ta tl tc ra rl rc ea el ec now began 0 ts rs es tl (openD ts tl)
  ft : ∀ t ∈ ts, TFit w t
  fr : ∀ r ∈ rs, r.fit w
  lo : w.heap.size < B
  bel : Below w.heap.size w v
section
variable {w u v : World} {fo : Obj} {B M : Nat} {ta : Option Addr} {tl tc : Nat} {ra : Option Addr} {rl rc : Nat} {ea : Option Addr} {el ec : Nat} {now began : Int} {ts : List TD} {rs : List RD} {es : List Int}
theorem wk_of {m : Nat} {D : DataW Unit} {puts : Int} (hbel : Below w.heap.size w v) (hb : v.heap[B]? = some (workO ta tl tc M ra rl rc ea el ec now began puts)) (hm : v.ownsMap Tryz.prog 2 (plainElem Tryz.prog 3) M m D)
    (ht : v.ownsRow w.heap.size 79 6 (.slice ta tl tc) tl (tdCells ts)) (hr : v.ownsRow w.heap.size 90 4 (.slice ra rl rc) rl (rdCells rs)) (he : v.ownsRow w.heap.size 2 1 (.slice ea el ec) el (numCells es))
    (ft : ∀ t ∈ ts, TFit w t) (fr : ∀ r ∈ rs, r.fit w) (lb : w.heap.size ≤ B) (lm : w.heap.size ≤ M) : WK w.heap.size v B M ta tl tc ra rl rc ea el ec now began puts ts rs es m D := by
  have hX : ∀ X, Mine B ta ra ea X → w.heap.size ≤ X := fun X hX => by
    rcases hX with rfl | hX | hX | hX
    · exact lb
    · exact (own_blk_lt ht hX).1
    · exact (own_blk_lt hr hX).1
    · exact (own_blk_lt he hX).1
  exact ⟨hb, hm, ht, hr, he, fun t h => (ft t h).below hbel, fun r h => (fr r h).below hbel, fun t h X hx => tfit_off (ft t h) (hX X hx), fun r h X hx => rfit_off (fr r h) (hX X hx), lb, lm⟩
theorem BG.under (h : BG w u fo B M ta tl tc ra rl rc ea el ec now began ts rs es) (hb : Below u.heap.size u v) : BG w v fo B M ta tl tc ra rl rc ea el ec now began ts rs es :=
  ⟨(hb.block _ (fb_lt h.f)).trans h.f, h.k.under hb, h.ft, h.fr, h.lo, below_tr h.bel hb⟩
theorem BG.start {o : Obj} {base : Nat} (hf : v.heap[w.heap.size]? = some fo) (ht : v.ownsRow base 79 6 (.slice ta tl tc) tl (tdCells ts)) (hbase : w.heap.size ≤ base) (ft : ∀ t ∈ ts, TFit w t) (hm : v.ownsMap Tryz.prog 2 (plainElem Tryz.prog 3) M tl (openD ts tl)) (hM : w.heap.size ≤ M) (hb : Below w.heap.size w v) (ho : o = workO ta tl tc M none 0 0 none 0 0 now 0 0) :
    BG w (v.alloc o) fo v.heap.size M ta tl tc none 0 0 none 0 0 now 0 ts [] [] := by
  subst ho
  have hb1 := fbelow_new v (workO ta tl tc M none 0 0 none 0 0 now 0 0)
  have hlt := fb_lt hf
  exact ⟨(hb1.block _ hlt).trans hf, wk_of (below_tr hb hb1) (heap_alloc_new _ _) (hm.alloc _) (own_base (ht.alloc _) hbase) (World.ownsRow_nil _ _ _ _) (World.ownsRow_nil _ _ _ _) ft (fun r hr => by cases hr) (Nat.le_of_lt hlt) hM, ft, fun r hr => (by cases hr), hlt, below_tr hb hb1⟩
theorem BG.rings {a1 : Option Addr} {c1 base n : Nat} (h : BG w u fo B M ta tl tc none 0 0 none 0 0 now 0 ts [] []) (hg : u.grownBy v none) (ho : v.ownsRow base 90 4 (.slice a1 n c1) n (rdCells rs)) (hB : B < base) (hf : ∀ r ∈ rs, r.fit w) :
    v.heap[B]? = some (workO ta tl tc M none 0 0 none 0 0 now 0 0) ∧ BG w (v.setCell ⟨B, 2, none⟩ (.slice a1 n c1)) fo B M ta tl tc a1 n c1 none 0 0 now 0 ts rs [] := by
  have h1 := h.under (below_of_grown hg)
  obtain ⟨k1, k3⟩ := h1.k.box 2 (.slice a1 n c1)
  have k2 := h1.bel.setCell (p := ⟨B, 2, none⟩) (Nat.le_of_lt h1.lo) (.slice a1 n c1)
  exact ⟨h1.k.b, (k1.block _ (fb_lt h1.f) (by have := h1.lo; simp; omega)).trans h1.f, wk_of k2 k3 (h1.k.m.kept k1 (by have := h1.k.bm; simp; omega)) (own_keep h1.k.t k1 (.inr (own_ne h1.k.t h1.k.b (by decide)))) (own_base (ownsRow_setCell_below ho (a := ⟨B, 2, none⟩) hB _) (Nat.le_of_lt (Nat.lt_trans h1.lo hB))) (World.ownsRow_nil _ _ _ _) h1.ft hf h1.k.lb h1.k.lm, h1.ft, hf, h1.lo, k2⟩
theorem BG.eps {a1 : Option Addr} {c1 base n : Nat} (h : BG w u fo B M ta tl tc ra rl rc none 0 0 now 0 ts rs []) (hg : u.grownBy v none) (ho : v.ownsRow base 2 1 (.slice a1 n c1) n (numCells es)) (hB : B < base) :
    v.heap[B]? = some (workO ta tl tc M ra rl rc none 0 0 now 0 0) ∧ BG w (v.setCell ⟨B, 3, none⟩ (.slice a1 n c1)) fo B M ta tl tc ra rl rc a1 n c1 now 0 ts rs es := by
  have h1 := h.under (below_of_grown hg)
  obtain ⟨k1, k3⟩ := h1.k.box 3 (.slice a1 n c1)
  have k2 := h1.bel.setCell (p := ⟨B, 3, none⟩) (Nat.le_of_lt h1.lo) (.slice a1 n c1)
  exact ⟨h1.k.b, (k1.block _ (fb_lt h1.f) (by have := h1.lo; simp; omega)).trans h1.f, wk_of k2 k3 (h1.k.m.kept k1 (by have := h1.k.bm; simp; omega)) (own_keep h1.k.t k1 (.inr (own_ne h1.k.t h1.k.b (by decide)))) (own_keep h1.k.r k1 (.inr (own_ne h1.k.r h1.k.b (by decide)))) (own_base (ownsRow_setCell_below ho (a := ⟨B, 3, none⟩) hB _) (Nat.le_of_lt (Nat.lt_trans h1.lo hB))) h1.ft h1.fr h1.k.lb h1.k.lm, h1.ft, h1.fr, h1.lo, k2⟩
theorem BG.setBegan (h : BG w u fo B M ta tl tc ra rl rc ea el ec now began ts rs es) (y : Int) : BG w (u.setCell ⟨B, 5, none⟩ (.int .i64 y)) fo B M ta tl tc ra rl rc ea el ec now y ts rs es := by
  obtain ⟨k1, k3⟩ := h.k.box 5 (.int .i64 y)
  exact ⟨(k1.block _ (fb_lt h.f) (by have := h.lo; simp; omega)).trans h.f, h.k.put k1 k3, h.ft, h.fr, h.lo, h.bel.setCell (p := ⟨B, 5, none⟩) (Nat.le_of_lt h.lo) _⟩
end
/-- What is answered: a fabric at work. -/
def Started (lo : Nat) (w' : World) (x : Ending) (rl tl : Nat) (now : Int) (rs : List RD) (es : List Int) (ts : List TD) : Prop :=
  ∃ (B M : Nat) (ta : Option Addr) (tc : Nat) (ra : Option Addr) (rc : Nat) (ea : Option Addr) (ec : Nat), x = .returned (.tuple #[.pointer (some ⟨B, 0, none⟩), .nilIface]) ∧
    Hid (WK lo w' B M ta tl tc ra rl rc ea 4 ec now (endSum rs) 0 ts rs es tl (openD ts tl))
theorem sizes_rl (w : World) (ra : Option Addr) (rl : Nat) (ea : Option Addr) (el : Nat) (ta : Option Addr) (tl : Nat) (rs : List RD) (es : List Int) (ts : List TD) (now : Int) (hi : FIn w ra rl ea el ta tl rs es ts) (h : ¬ (1 ≤ rl ∧ rl ≤ 4 ∧ el = 4 ∧ tl ≤ 12)) : fabRightB rs es ts now = false := by
  have h1 := hi.rs.1
  have h2 := hi.es.1
  have h3 := hi.ts.1
  have : fabSizesB rs es ts = false := decide_eq_false (by rw [h1, h2, h3]; exact h)
  simp [fabRightB, this]
theorem fab_parts {rs : List RD} {es : List Int} {ts : List TD} {now : Int} (hs : 1 ≤ rs.length ∧ rs.length ≤ 4 ∧ es.length = 4 ∧ ts.length ≤ 12) : fabRightB rs es ts now = ((es.all timeB && timeB now) && txnsFitB es rs.length now ts && ringsFitB ts rs) := by
  have : fabSizesB rs es ts = true := decide_eq_true hs
  unfold fabRightB
  rw [this, Bool.true_and, Bool.and_comm (timeB now)]
theorem fits_up {es : List Int} {n : Nat} {now : Int} {ts : List TD} (h : txnsFitB es n now ts = true) : ∀ t ∈ ts, upB t.rs = true ∧ upB t.ls = true := fun t ht => by
  simp only [txnsFitB, Bool.and_eq_true, List.all_eq_true] at h
  have h1 := h.1 t ht
  simp only [txnFitB, Bool.and_eq_true] at h1
  have h2 := txnRight_bnd h1.1.1.1
  have h3 := h2.2.2.2.2.1
  have h4 := h2.2.2.2.2.2
  simp only [ringsB, Bool.and_eq_true] at h3 h4
  exact ⟨h3.2, h4.2⟩
theorem fit_firsts {ts : List TD} {rs : List RD} (h : ringsFitB ts rs = true) : ∀ r ∈ rs, 0 ≤ r.first ∧ r.first ≤ 1000000 := fun r hr => by
  obtain ⟨i, hi, rfl⟩ := List.getElem_of_mem hr
  have h1 := of_decide_eq_true h i hi hi
  simp only [ringFitB, Bool.and_eq_true] at h1
  have h2 : ringRightB rs[i].cap rs[i].first rs[i].recs rs[i].curs = true := by simp_all
  exact (right_first h2).1
end Go.Proofs.YtdepaeajfldfbaaGreatDoor
/- The program's fabric at work: begun, whole. -/
namespace Go.Proofs.YtdepaeajfldfbaaGreatDoor
open Go.RowKit Go.Maps
attribute [local go_sem ↓] Go.wp_at_zero Go.wp_at_succ
set_option linter.unusedSimpArgs false

set_option maxRecDepth 100000 in
set_option maxHeartbeats 8000000 in
theorem impl_startWork (ra : Option Addr) (rl rc : Nat) (ea : Option Addr) (el ec : Nat) (ta : Option Addr) (tl tc : Nat) (now : Int) (rs : List RD) (es : List Int) (ts : List TD) (w : World) (hi : FIn w ra rl ea el ta tl rs es ts) (hU : utabs w) (hE : errs w)
    (hnr : ra = none → rl = 0 ∧ rc = 0) (hne : ea = none → el = 0 ∧ ec = 0) (hnt : ta = none → tl = 0 ∧ tc = 0) :
    Calls Tryz.prog 37 #[fabVal ra rl rc ea el ec ta tl tc now] w fun x w' => ((fabRightB rs es ts now = true → Started w.heap.size w' x rl tl now rs es ts) ∧ (fabRightB rs es ts now = false → NotRight w x)) ∧ Below w.heap.size w w' := by
  by_cases h : 1 ≤ rl ∧ rl ≤ 4 ∧ el = 4 ∧ tl ≤ 12
  case neg =>
    have hR := sizes_rl w ra rl ea el ta tl rs es ts now hi h
    refine (impl_start_sizes ra rl rc ea el ec ta tl tc now w hi.rle hi.ele hi.tle hE h).mono ?_
    rintro x w' ⟨hx, hb⟩
    exact ⟨⟨(fun e => by rw [hR] at e; cases e), fun _ => hx⟩, hb⟩
  have HI : Hid (FIn w ra rl ea el ta tl rs es ts) := hi
  have HP : Hid (fabRightB rs es ts now = ((es.all timeB && timeB now) && txnsFitB es rl now ts && ringsFitB ts rs)) := show _ = _ by
    have h1 := hi.rs.1
    have h2 := hi.es.1
    have h3 := hi.ts.1
    rw [fab_parts (by rw [h1, h2, h3]; exact h), h1]
  have HLR : Hid (rs.length = rl) := hi.rs.1
  have HLE : Hid (es.length = el) := hi.es.1
  obtain ⟨i0, hi0, hz0, hz1, hz2⟩ := info_parts info_ringF
  obtain ⟨j0, hj0, hy0, hy1, hy2⟩ := info_parts info_i64
  have H0 : Hid (FB w (w.alloc (fabO ra rl rc ea el ec ta tl tc now)) (fabO ra rl rc ea el ec ta tl tc now)) := fb_new _ _ _
  have HE : Hid (errs w) := hE
  have HU : Hid (utabs w) := hU
  have hrl := hi.rle
  have hel := hi.ele
  have htl := hi.tle
  have HN : Hid ((ra = none → rl = 0 ∧ rc = 0) ∧ (ea = none → el = 0 ∧ ec = 0) ∧ (ta = none → tl = 0 ∧ tc = 0)) := ⟨hnr, hne, hnt⟩
  have HS : Hid (1 ≤ rl ∧ rl ≤ 4 ∧ el = 4 ∧ tl ≤ 12) := h
  clear hE hU hi hnr hne hnt h
  go_enter Tryz.func37, Tryz.ntmps37
  go_wp2_with fail
  refine (impl_sizes ra rl rc ea el ec ta tl tc now _ hrl hel htl).mono ?_
  rintro x v ⟨rfl, hbv⟩
  rw [decide_eq_true HS.out]
  obtain ⟨h1, h4, h44, h12⟩ := HS.out
  subst h44
  clear HS
  have H1 : Hid (FB w v (fabO ra rl rc ea 4 ec ta tl tc now)) := H0.out.under hbv
  clear hbv H0
  have cf := fun o => fb_cell H1.out.box o
  have HT1 : Hid (Txs v.drew ta tl ts) := txs_below HI.out.ts H1.out.bel.drew
  go_upto_region 3 with fail
  go_cut [4] (fun s wc => ∃ (B M : Nat) (a2 : Option Addr) (c2 : Nat), s = .pointer (some ⟨B, 0, none⟩) ∧ Hid (BG w wc (fabO ra rl rc ea 4 ec ta tl tc now) B M a2 tl c2 none 0 0 none 0 0 now 0 ts [] []))
  case first =>
    go_region_with (first | (go_at_call 77; refine (impl_txnsOf ta tl tc ts _ HT1.out h12 HN.out.2.2).mono ?_; rintro x v2 ⟨a2, c2, rfl, ht2, hm2, hb2⟩; have HZ2 : Hid (w.heap.size ≤ v.drew.heap.size) := H1.out.bel.size; have H2 : Hid (FB w v2 (fabO ra rl rc ea 4 ec ta tl tc now)) := (H1.out.under ((Below.refl _ _).drew)).under hb2; have cf2 := fun o => fb_cell H2.out.box o; clear hb2))
    all_goals (go_wp2_with fail; go_meet; exact ⟨_, _, a2, c2, rfl, BG.start H2.out.box ht2.out (Nat.le_trans HZ2.out (Nat.le_add_right _ _)) (txs_fits HI.out.ts) hm2.out (Nat.le_trans HZ2.out (Nat.le_add_right _ _)) H2.out.bel rfl⟩)
  case rest =>
  obtain ⟨B, M, a2, c2, rfl, hG⟩ := hcut
  clear H1 cf HT1
  have cf := fun o => fb_cell hG.out.f o
  have cb := fun o => fb_cell hG.out.k.b o
  have fb := fun o => unfrozen_of_block0 hG.out.k.b o
  go_upto_region 4 with fail
  go_cut [] (fun wd => ∃ (a3 : Option Addr) (c3 : Nat), Hid (BG w wd (fabO ra rl rc ea 4 ec ta tl tc now) B M a2 tl c2 a3 rl c3 none 0 0 now 0 ts rs []))
  case first =>
    go_region_law (first
      | (refine step_append_own_any (by rfl) _ _ 29 (by rfl) wc.heap.size 90 i0 _ 4 64 Tryz.underlying29 hi0 hz0 hz1 hz2 (by rfl) (by omega) (.slice none 0 0) 0 [] (by rfl) (World.ownsRow_nil _ _ _ _) ra rl rc (rdCells rs) (by rfl) (by rw [rdCells_length, HLR.out]) HN.out.1 (rngs_news (rngs_below HI.out.rs hG.out.bel.drew)) (rdCells_one _) (by unfold maxLen; omega) (by omega) (Nat.le_refl _) ?_; intro v1 w2 ho2 hg2; simp only [Nat.zero_add, List.nil_append] at ho2; obtain ⟨a3, c3, rfl⟩ := own_rgV ho2; have hst := BG.rings (hG.out.under ((Below.refl _ _).drew)) hg2 ho2 (fb_lt hG.out.k.b) (rngs_fits HI.out.rs); have cb3 := fun o => fb_cell hst.1 o; have fb3 := fun o => unfrozen_of_block0 hst.1 o; have HST : Hid _ := hst.2; clear hg2 ho2 hst))
    all_goals (go_wp2_with fail; go_meet; exact ⟨a3, c3, HST.out⟩)
  case rest =>
  obtain ⟨a3, c3, hG3⟩ := hcut
  clear hG cf cb fb
  have cf := fun o => fb_cell hG3.out.f o
  have cb := fun o => fb_cell hG3.out.k.b o
  have fb := fun o => unfrozen_of_block0 hG3.out.k.b o
  go_upto_region 5 with fail
  go_cut [] (fun we => ∃ (a4 : Option Addr) (c4 : Nat), Hid (BG w we (fabO ra rl rc ea 4 ec ta tl tc now) B M a2 tl c2 a3 rl c3 a4 4 c4 now 0 ts rs es))
  case first =>
    go_region_law (first
      | (refine step_append_own_any (by rfl) _ _ 23 (by rfl) wc.heap.size 2 j0 _ 1 8 Tryz.underlying23 hj0 hy0 hy1 hy2 (by rfl) (by omega) (.slice none 0 0) 0 [] (by rfl) (World.ownsRow_nil _ _ _ _) ea 4 ec (numCells es) (by rfl) (by rw [List.length_map, HLE.out, Nat.mul_one]) HN.out.2.1 (nums_news (nums_below HI.out.es hG3.out.bel.drew)) (numCells_one _) (by unfold maxLen; omega) (by omega) (Nat.le_refl _) ?_; intro v1 w2 ho2 hg2; simp only [Nat.zero_add, List.nil_append] at ho2; obtain ⟨a4, c4, rfl, _⟩ := own_numIn ho2; have hst := BG.eps (hG3.out.under ((Below.refl _ _).drew)) hg2 ho2 (fb_lt hG3.out.k.b); have cb3 := fun o => fb_cell hst.1 o; have fb3 := fun o => unfrozen_of_block0 hst.1 o; have HST : Hid _ := hst.2; clear hg2 ho2 hst))
    all_goals (go_wp2_with fail; go_meet; exact ⟨a4, c4, HST.out⟩)
  case rest =>
  obtain ⟨a4, c4, hG4⟩ := hcut
  clear hG3 cf cb fb
  go_wp2_with fail
  refine (impl_numbersRight es _ hG4.out.k.b hG4.out.k.nums (by omega)).mono ?_
  rintro x v1 ⟨rfl, hv1⟩
  rw [hv1]
  clear hv1 v1
  cases hA : (es.all timeB && timeB now) with
  | false =>
    have hR : Hid (fabRightB rs es ts now = false) := show _ = _ by rw [HP.out, hA]; rfl
    obtain ⟨t, y, h0⟩ := HE.out
    have hc := cell_below h0 hG4.out.bel
    have HC0 : Hid (w.cell? ⟨0, 0, none⟩ = some (.iface t y)) := h0
    clear h0
    clear hA HP
    go_wp2
    go_quiet (first | (fail))
    go_wp2
    exact bodyPost_ret (v := .tuple #[.pointer none, .iface t y]) (by simp [results, Tryz.results37, go_sem]) rfl ⟨⟨(fun e => by rw [hR.out] at e; cases e), fun _ => ⟨t, y, HC0.out, rfl⟩⟩, tbelow_dn hG4.out.bel _⟩
  | true =>
  have HA : Hid ((es.all timeB && timeB now) = true) := hA
  clear hA
  go_wp2_with fail
  refine (impl_txnsRight es ts _ ⟨hG4.out.k.b, hG4.out.k.m, hG4.out.k.nums⟩ hG4.out.k.txs (by omega) (by omega)).mono ?_
  rintro x v2 ⟨rfl, hb2⟩
  have hG5 : Hid (BG w v2 (fabO ra rl rc ea 4 ec ta tl tc now) B M a2 tl c2 a3 rl c3 a4 4 c4 now 0 ts rs es) := hG4.out.under hb2
  clear hb2 hG4
  cases hB : txnsFitB es rl now ts with
  | false =>
    have hR : Hid (fabRightB rs es ts now = false) := show _ = _ by rw [HP.out, HA.out, hB]; rfl
    obtain ⟨t, y, h0⟩ := HE.out
    have hc := cell_below h0 hG5.out.bel
    have HC0 : Hid (w.cell? ⟨0, 0, none⟩ = some (.iface t y)) := h0
    clear h0
    clear hB HP
    go_wp2
    go_quiet (first | (fail))
    go_wp2
    exact bodyPost_ret (v := .tuple #[.pointer none, .iface t y]) (by simp [results, Tryz.results37, go_sem]) rfl ⟨⟨(fun e => by rw [hR.out] at e; cases e), fun _ => ⟨t, y, HC0.out, rfl⟩⟩, tbelow_dn hG5.out.bel _⟩
  | true =>
  have HB : Hid (txnsFitB es rl now ts = true) := hB
  clear hB
  go_wp2_with fail
  refine (impl_ringsRight rs ts _ hG5.out.k.b hG5.out.k.rngs hG5.out.k.txs (fits_up HB.out) (utabs_below HU.out hG5.out.bel) (by omega) (by omega)).mono ?_
  rintro x v3 ⟨rfl, hb3⟩
  have hG6 : Hid (BG w v3 (fabO ra rl rc ea 4 ec ta tl tc now) B M a2 tl c2 a3 rl c3 a4 4 c4 now 0 ts rs es) := hG5.out.under hb3
  clear hb3 hG5
  cases hC : ringsFitB ts rs with
  | false =>
    have hR : Hid (fabRightB rs es ts now = false) := show _ = _ by rw [HP.out, HA.out, HB.out, hC]; rfl
    obtain ⟨t, y, h0⟩ := HE.out
    have hc := cell_below h0 hG6.out.bel
    have HC0 : Hid (w.cell? ⟨0, 0, none⟩ = some (.iface t y)) := h0
    clear h0
    clear hC HP
    go_wp2
    go_quiet (first | (fail))
    go_wp2
    exact bodyPost_ret (v := .tuple #[.pointer none, .iface t y]) (by simp [results, Tryz.results37, go_sem]) rfl ⟨⟨(fun e => by rw [hR.out] at e; cases e), fun _ => ⟨t, y, HC0.out, rfl⟩⟩, tbelow_dn hG6.out.bel _⟩
  | true =>
  have hR : Hid (fabRightB rs es ts now = true) := show _ = _ by rw [HP.out, HA.out, HB.out, hC]; rfl
  have HC : Hid (ringsFitB ts rs = true) := hC
  clear hC HP
  go_wp2_with fail
  refine (impl_sumOfEnds rs _ hG6.out.k.b hG6.out.k.rngs h4 (fit_firsts HC.out)).mono ?_
  rintro x v4 ⟨rfl, hb4⟩
  have hG7 : Hid (BG w v4 (fabO ra rl rc ea 4 ec ta tl tc now) B M a2 tl c2 a3 rl c3 a4 4 c4 now 0 ts rs es) := hG6.out.under hb4
  clear hb4 hG6
  have cb := fun o => fb_cell hG7.out.k.b o
  have fb := fun o => unfrozen_of_block0 hG7.out.k.b o
  have hG8 : Hid (BG w (v4.setCell ⟨B, 5, none⟩ (.int .i64 (endSum rs))) (fabO ra rl rc ea 4 ec ta tl tc now) B M a2 tl c2 a3 rl c3 a4 4 c4 now (endSum rs) ts rs es) := hG7.out.setBegan _
  go_wp2
  exact bodyPost_ret (v := .tuple #[.pointer (some ⟨B, 0, none⟩), .nilIface]) (by simp [results, Tryz.results37, go_sem]) rfl ⟨⟨fun _ => ⟨B, M, a2, c2, a3, c3, a4, c4, rfl, hG8.out.k⟩, (fun e => by rw [hR.out] at e; cases e)⟩, hG8.out.bel⟩
end Go.Proofs.YtdepaeajfldfbaaGreatDoor
/- The program's questions to a fabric: FabricRight, OpenOf, Owed. -/
namespace Go.Proofs.YtdepaeajfldfbaaGreatDoor
open Go.RowKit Go.Maps
attribute [local go_sem ↓] Go.wp_at_zero Go.wp_at_succ
set_option linter.unusedSimpArgs false
set_option linter.unusedVariables false

theorem openAt_end {ts : List TD} {k : Nat} (h : ts.length ≤ k) (p : Int) : openAt ts (k + 1) p = openAt ts k p := by
  unfold openAt
  rw [List.take_of_length_le h, List.take_of_length_le (Nat.le_succ_of_le h)]
/-- Whether the map has a producer. -/
theorem openD_has (ts : List TD) (p : Int) (k : Nat) : Maps.has (openD ts k) (.int .i64 p) = openAt ts k p := by
  induction k with
  | zero => simp [openD, openAt, Maps.has]
  | succ k ih =>
    unfold openD
    cases h : ts[k]? with
    | none => rw [openAt_end (List.getElem?_eq_none_iff.1 h)]; exact ih
    | some t =>
      simp only
      rw [openAt_succ h]
      by_cases hs : t.s = 1
      · rw [if_pos hs]
        by_cases hp : t.p = p
        · subst hp
          rw [has_put_same (openD_isMap ts k) (by simp [WideAt.IsKeyLit])]
          simp [hs]
        · rw [has_put_other (by intro e; cases e; exact hp rfl), ih]
          simp [hp]
      · rw [if_neg hs, ih]
        simp [hs]
theorem openOf_right {ts : List TD} {p : Int} (h : openB ts = true) (ho : openAt ts ts.length p = true) : openOf ts p = lastAt ts p ts.length + 1 := by
  obtain ⟨j, t, hj, ht, hs, hp⟩ := open_some ho
  obtain ⟨u, hu, us, up⟩ := lastAt_is ht hs hp ts.length hj
  exact openOf_at hu (fun i hi v hv hh => by have := openB_no hv hu hi hh.2 us (hh.1.trans up.symm); rw [h] at this; cases this) up us
theorem openOf_not {ts : List TD} {p : Int} (ho : openAt ts ts.length p = false) : openOf ts p = 0 := openOf_none (Nat.le_refl _) (fun j hj u hu hh => open_none ho hj hu hh.2 hh.1)
theorem right_txns {rs : List RD} {es : List Int} {ts : List TD} {now : Int} (h : fabRightB rs es ts now = true) : txnsFitB es rs.length now ts = true := by
  simp only [fabRightB, Bool.and_eq_true] at h
  exact h.1.2
theorem right_open {rs : List RD} {es : List Int} {ts : List TD} {now : Int} (h : fabRightB rs es ts now = true) : openB ts = true := by
  have h1 := right_txns h
  simp only [txnsFitB, Bool.and_eq_true] at h1
  exact h1.2
theorem right_sizes {rs : List RD} {es : List Int} {ts : List TD} {now : Int} (h : fabRightB rs es ts now = true) : 1 ≤ rs.length ∧ rs.length ≤ 4 ∧ es.length = 4 ∧ ts.length ≤ 12 := by
  simp only [fabRightB, Bool.and_eq_true] at h
  exact of_decide_eq_true h.1.1.1.1
section
variable {lo : Nat} {B M : Nat} {ta : Option Addr} {tl tc : Nat} {ra : Option Addr} {rl rc : Nat} {ea : Option Addr} {el ec : Nat} {now began puts : Int} {ts : List TD} {rs : List RD} {es : List Int} {m : Nat} {D : DataW Unit}
set_option maxHeartbeats 2000000 in
theorem impl_openOf (p : Int) (t : TypeId) (y : Value) (w : World) (h : WK lo w B M ta tl tc ra rl rc ea el ec now began puts ts rs es m D) (hp : -9223372036854775808 ≤ p ∧ p ≤ 9223372036854775807) (hE : w.cell? ⟨1, 0, none⟩ = some (.iface t y)) :
    Calls Tryz.prog 42 #[.pointer (some ⟨B, 0, none⟩), .int .i64 p] w fun x w' => ((Maps.has D (.int .i64 p) = true → ∃ c : Int, D.atKey (.int .i64 p) (.lit (.int .i64 0)) = .lit (.int .i64 c) ∧ x = .returned (.tuple #[.int .i64 c, .nilIface])) ∧ (Maps.has D (.int .i64 p) = false → x = .returned (.tuple #[.int .i64 0, .iface t y]))) ∧ Below w.heap.size w w' := by
  have cb := fun o => fb_cell h.b o
  have HM : Hid _ := h.m
  have hkey : keyOf Tryz.prog 2 (.int .i64 p) = some (.int .i64 p) := keyOf_int_mk Tryz.underlying2 (wf64 hp)
  obtain ⟨H, hH⟩ : ∃ H, Maps.has D (.int .i64 p) = H := ⟨_, rfl⟩
  have HH : Hid (Maps.has D (.int .i64 p) = H) := hH
  clear h hH
  cases H with
  | true =>
    go_enter Tryz.func42, Tryz.ntmps42
    go_wp2_with (first | (at_lookup; refine wpList_lookup_own_ok_int _ rfl _ _ 64 rfl 2 3 .i64 mapKey Tryz.underlying64 Tryz.underlying3 (mapZero _) M m D rfl HM.out _ _ rfl hkey ?_; intro c hat hwc; rw [HH.out]; have HA : Hid (D.atKey (.int .i64 p) (.lit (.int .i64 0)) = .lit (.int .i64 c)) := hat; clear hat hwc) | go_in)
    exact bodyPost_ret (v := .tuple #[.int .i64 c, .nilIface]) (by simp [results, Tryz.results42, go_sem]) rfl ⟨⟨fun _ => ⟨c, HA.out, rfl⟩, (fun e => by rw [HH.out] at e; cases e)⟩, Below.refl _ _⟩
  | false =>
    go_enter Tryz.func42, Tryz.ntmps42
    go_wp2_with (first | (at_lookup; refine wpList_lookup_own_ok_int _ rfl _ _ 64 rfl 2 3 .i64 mapKey Tryz.underlying64 Tryz.underlying3 (mapZero _) M m D rfl HM.out _ _ rfl hkey ?_; intro c hat hwc; rw [HH.out]; clear hat hwc) | go_in)
    go_quiet (first | (fail))
    go_wp2
    exact bodyPost_ret (v := .tuple #[.int .i64 0, .iface t y]) (by simp [results, Tryz.results42, go_sem]) rfl ⟨⟨(fun e => by rw [HH.out] at e; cases e), fun _ => rfl⟩, tbelow_dn (Below.refl _ _) _⟩
set_option maxHeartbeats 1000000 in
theorem impl_numberAt (n : Int) (w : World) (hn : 0 ≤ n ∧ n ≤ 1048576) :
    Calls Tryz.prog 43 #[.int .i64 n] w fun x w' => x = .returned (.int .i64 (n + 1)) ∧ w' = w := by
  have hw : IntKind.i64.wrap (n + 1) = n + 1 := twrap_in _ (by omega) (by omega)
  go_enter Tryz.func43, Tryz.ntmps43
  go_wp2
  go_ret
  exact ⟨rfl, rfl⟩
end
variable (ra : Option Addr) (rl rc : Nat) (ea : Option Addr) (el ec : Nat) (ta : Option Addr) (tl tc : Nat) (now : Int)
set_option maxRecDepth 100000 in
set_option maxHeartbeats 2000000 in
theorem impl_fabricRight (rs : List RD) (es : List Int) (ts : List TD) (w : World) (hi : FIn w ra rl ea el ta tl rs es ts) (hU : utabs w) (hE : errs w) (hnr : ra = none → rl = 0 ∧ rc = 0) (hne : ea = none → el = 0 ∧ ec = 0) (hnt : ta = none → tl = 0 ∧ tc = 0) :
    Calls Tryz.prog 12 #[fabVal ra rl rc ea el ec ta tl tc now] w fun x w' => x = .returned (.bool (fabRightB rs es ts now)) ∧ Below w.heap.size w w' := by
  have H0 : Hid (FB w (w.alloc (fabO ra rl rc ea el ec ta tl tc now)) (fabO ra rl rc ea el ec ta tl tc now)) := fb_new _ _ _
  have HI : Hid (FIn w ra rl ea el ta tl rs es ts) := hi
  have HU : Hid (utabs w) := hU
  have HE : Hid (errs w) := hE
  have HN : Hid ((ra = none → rl = 0 ∧ rc = 0) ∧ (ea = none → el = 0 ∧ ec = 0) ∧ (ta = none → tl = 0 ∧ tc = 0)) := ⟨hnr, hne, hnt⟩
  clear hi hU hE hnr hne hnt
  go_enter Tryz.func12, Tryz.ntmps12
  go_wp2_with fail
  refine (impl_startWork ra rl rc ea el ec ta tl tc now rs es ts _ (HI.out.below H0.out.bel) (utabs_below HU.out H0.out.bel) (errs_below HE.out H0.out.bel) HN.out.1 HN.out.2.1 HN.out.2.2).mono ?_
  rintro x v ⟨⟨hx1, hx2⟩, hb⟩
  have HB : Hid (Below w.heap.size w v) := below_tr H0.out.bel hb
  cases hR : fabRightB rs es ts now with
  | true =>
    obtain ⟨B, M, ta', tc', ra', rc', ea', ec', rfl, ho⟩ := hx1 hR
    have HRH : Hid (fabRightB rs es ts now = true) := hR
    clear hx1 hx2 ho hR hb H0
    go_wp2
    go_ret
    exact ⟨by rw [HRH.out]; rfl, HB.out⟩
  | false =>
    obtain ⟨t, y, _, rfl⟩ := hx2 hR
    have HRH : Hid (fabRightB rs es ts now = false) := hR
    clear hx1 hx2 hR hb H0
    go_wp2
    go_ret
    exact ⟨by rw [HRH.out]; rfl, HB.out⟩
set_option maxRecDepth 100000 in
set_option maxHeartbeats 2000000 in
theorem impl_Owed (n : Int) (rs : List RD) (es : List Int) (ts : List TD) (w : World) (hi : FIn w ra rl ea el ta tl rs es ts) (hU : utabs w) (hE : errs w) (hnr : ra = none → rl = 0 ∧ rc = 0) (hne : ea = none → el = 0 ∧ ec = 0) (hnt : ta = none → tl = 0 ∧ tc = 0) :
    Calls Tryz.prog 17 #[fabVal ra rl rc ea el ec ta tl tc now, .int .i64 n] w fun x w' => x = .returned (.int .i64 (if fabRightB rs es ts now && decide (0 ≤ n ∧ n ≤ (rl : Int) - 1) then (owedN ts n : Int) else 0)) ∧ Below w.heap.size w w' := by
  have H0 : Hid (FB w (w.alloc (fabO ra rl rc ea el ec ta tl tc now)) (fabO ra rl rc ea el ec ta tl tc now)) := fb_new _ _ _
  have HI : Hid (FIn w ra rl ea el ta tl rs es ts) := hi
  have HU : Hid (utabs w) := hU
  have HE : Hid (errs w) := hE
  have HN : Hid ((ra = none → rl = 0 ∧ rc = 0) ∧ (ea = none → el = 0 ∧ ec = 0) ∧ (ta = none → tl = 0 ∧ tc = 0)) := ⟨hnr, hne, hnt⟩
  clear hi hU hE hnr hne hnt
  obtain ⟨Z, hZ⟩ : ∃ Z : Int, (if fabRightB rs es ts now && decide (0 ≤ n ∧ n ≤ (rl : Int) - 1) then (owedN ts n : Int) else 0) = Z := ⟨_, rfl⟩
  rw [hZ]
  have HZ : Hid ((if fabRightB rs es ts now && decide (0 ≤ n ∧ n ≤ (rl : Int) - 1) then (owedN ts n : Int) else 0) = Z) := hZ
  clear hZ
  go_enter Tryz.func17, Tryz.ntmps17
  go_wp2_with fail
  refine (impl_startWork ra rl rc ea el ec ta tl tc now rs es ts _ (HI.out.below H0.out.bel) (utabs_below HU.out H0.out.bel) (errs_below HE.out H0.out.bel) HN.out.1 HN.out.2.1 HN.out.2.2).mono ?_
  rintro x v ⟨⟨hx1, hx2⟩, hb⟩
  have HB : Hid (Below w.heap.size w v) := below_tr H0.out.bel hb
  cases hR : fabRightB rs es ts now with
  | false =>
    obtain ⟨t, y, _, rfl⟩ := hx2 hR
    have hE : Hid (0 = Z) := by have h := HZ.out; rw [hR] at h; exact h
    clear hx1 hx2 hR hb H0 HZ
    go_wp2
    go_ret
    exact ⟨ret_int hE.out, HB.out⟩
  | true =>
    obtain ⟨B, M, ta', tc', ra', rc', ea', ec', rfl, ho⟩ := hx1 hR
    have hs := right_sizes hR
    have hrl : rl ≤ 1048576 := HI.out.rle
    have htl : tl ≤ 1048576 := HI.out.tle
    have HUP : Hid (∀ t ∈ ts, upB t.rs = true ∧ upB t.ls = true) := fits_up (right_txns hR)
    have HZ1 : Hid ((if decide (0 ≤ n ∧ n ≤ (rl : Int) - 1) then (owedN ts n : Int) else 0) = Z) := by have h := HZ.out; rw [hR, Bool.true_and] at h; exact h
    have HQ : Hid _ := fun w h => impl_hasRing (B := B) (ta := ta') (tl := tl) (tc := tc') (M := M) (ra := ra') (rl := rl) (rc := rc') (ea := ea') (el := 4) (ec := ec') (now := now) (began := endSum rs) (puts := 0) n w h hrl
    have HK : Hid _ := ho.out
    clear hx1 hx2 hR hb H0 HZ ho hs
    go_wp2_with fail
    refine (HQ.out _ HK.out.b).mono ?_
    rintro x v2 ⟨rfl, hb2⟩
    have HB2 : Hid (Below w.heap.size w v2) := below_tr HB.out (by first | exact hb2 | (rw [hb2]; exact Below.refl _ _))
    have HK2 : Hid _ := HK.out.under (v := v2) (by first | exact hb2 | (rw [hb2]; exact Below.refl _ _))
    clear hb2 HK HQ
    by_cases hT : 0 ≤ n ∧ n < (rl : Int)
    · have hE : Hid ((owedN ts n : Int) = Z) := by have h := HZ1.out; rw [if_pos (decide_eq_true (by omega))] at h; exact h
      rw [decide_eq_true hT]
      clear HZ1
      go_wp2_with fail
      refine (impl_owed n ts _ HK2.out.b HK2.out.txs htl HUP.out).mono ?_
      rintro x v3 ⟨rfl, hb3⟩
      have HB3 : Hid (Below w.heap.size w v3) := below_tr HB2.out (by first | exact hb3 | (rw [hb3]; exact Below.refl _ _))
      clear hb3
      rw [hE.out]
      go_wp2
      go_ret
      exact ⟨ret_int rfl, HB3.out⟩
    · have hE : Hid (0 = Z) := by have h := HZ1.out; rw [if_neg (by simp; omega)] at h; exact h
      rw [decide_eq_false hT]
      clear HZ1
      go_wp2
      go_ret
      exact ⟨ret_int hE.out, HB2.out⟩
set_option maxRecDepth 100000 in
set_option maxHeartbeats 2000000 in
theorem impl_OpenOf (n : Int) (rs : List RD) (es : List Int) (ts : List TD) (w : World) (hi : FIn w ra rl ea el ta tl rs es ts) (hU : utabs w) (hE : errs w) (hES : ∃ t y, w.cell? ⟨1, 0, none⟩ = some (.iface t y)) (hn : -9223372036854775808 ≤ n ∧ n ≤ 9223372036854775807) (hnr : ra = none → rl = 0 ∧ rc = 0) (hne : ea = none → el = 0 ∧ ec = 0) (hnt : ta = none → tl = 0 ∧ tc = 0) :
    Calls Tryz.prog 15 #[fabVal ra rl rc ea el ec ta tl tc now, .int .i64 n] w fun x w' => x = .returned (.int .i64 (if fabRightB rs es ts now then (openOf ts n : Int) else 0)) ∧ Below w.heap.size w w' := by
  have H0 : Hid (FB w (w.alloc (fabO ra rl rc ea el ec ta tl tc now)) (fabO ra rl rc ea el ec ta tl tc now)) := fb_new _ _ _
  have HI : Hid (FIn w ra rl ea el ta tl rs es ts) := hi
  have HU : Hid (utabs w) := hU
  have HE : Hid (errs w) := hE
  have HES : Hid (∃ t y, w.cell? ⟨1, 0, none⟩ = some (.iface t y)) := hES
  have HN : Hid ((ra = none → rl = 0 ∧ rc = 0) ∧ (ea = none → el = 0 ∧ ec = 0) ∧ (ta = none → tl = 0 ∧ tc = 0)) := ⟨hnr, hne, hnt⟩
  have HNW : Hid (-9223372036854775808 ≤ n ∧ n ≤ 9223372036854775807) := hn
  clear hi hU hE hnr hne hnt hES hn
  obtain ⟨Z, hZ⟩ : ∃ Z : Int, (if fabRightB rs es ts now then (openOf ts n : Int) else 0) = Z := ⟨_, rfl⟩
  rw [hZ]
  have HZ : Hid ((if fabRightB rs es ts now then (openOf ts n : Int) else 0) = Z) := hZ
  clear hZ
  go_enter Tryz.func15, Tryz.ntmps15
  go_wp2_with fail
  refine (impl_startWork ra rl rc ea el ec ta tl tc now rs es ts _ (HI.out.below H0.out.bel) (utabs_below HU.out H0.out.bel) (errs_below HE.out H0.out.bel) HN.out.1 HN.out.2.1 HN.out.2.2).mono ?_
  rintro x v ⟨⟨hx1, hx2⟩, hb⟩
  have HB : Hid (Below w.heap.size w v) := below_tr H0.out.bel hb
  cases hR : fabRightB rs es ts now with
  | false =>
    obtain ⟨t, y, _, rfl⟩ := hx2 hR
    have hE : Hid (0 = Z) := by have h := HZ.out; rw [hR] at h; exact h
    clear hx1 hx2 hR hb H0 HZ
    go_wp2
    go_ret
    exact ⟨ret_int hE.out, HB.out⟩
  | true =>
    obtain ⟨B, M, ta', tc', ra', rc', ea', ec', rfl, ho⟩ := hx1 hR
    have HZ1 : Hid ((openOf ts n : Int) = Z) := by have h := HZ.out; rw [hR] at h; exact h
    have HL : Hid (ts.length = tl) := HI.out.ts.1
    have HO : Hid (openB ts = true) := right_open hR
    have hs : ts.length ≤ 12 := (right_sizes hR).2.2.2
    have HS12 : Hid (tl ≤ 12) := by show tl ≤ 12; rw [← HL.out]; exact hs
    have HK : Hid _ := ho.out
    obtain ⟨t, y, h0⟩ := HES.out
    have HC : Hid (v.cell? ⟨1, 0, none⟩ = some (.iface t y)) := cell_below h0 HB.out
    clear hx1 hx2 hR hb H0 HZ ho h0 hs
    go_wp2_with fail
    refine (impl_openOf n t y _ HK.out HNW.out HC.out).mono ?_
    rintro x v2 ⟨⟨hy1, hy2⟩, hb2⟩
    rw [openD_has] at hy1 hy2
    have HB2 : Hid (Below w.heap.size w v2) := below_tr HB.out hb2
    cases hH : openAt ts tl n with
    | false =>
      obtain rfl := hy2 hH
      have hE : Hid (0 = Z) := by have h := HZ1.out; rw [openOf_not (by rw [HL.out]; exact hH)] at h; exact h
      clear hy1 hy2 hH hb2 HZ1
      go_wp2
      go_ret
      exact ⟨ret_int hE.out, HB2.out⟩
    | true =>
      obtain ⟨c, hat, rfl⟩ := hy1 hH
      rw [openD_at] at hat
      simp only [DataW.lit.injEq, Lit.int.injEq, true_and] at hat
      subst hat
      have hle := lastAt_le ts n tl
      have HE2 : Hid ((lastAt ts n tl : Int) + 1 = Z) := by have h := HZ1.out; rw [openOf_right HO.out (by rw [HL.out]; exact hH), HL.out] at h; exact h
      have h12 := HS12.out
      obtain ⟨k, hk⟩ : ∃ k, lastAt ts n tl = k := ⟨_, rfl⟩
      rw [hk] at hle HE2 ⊢
      clear hy1 hy2 hH hb2 HZ1 hk
      go_wp2_with fail
      refine (impl_numberAt (k : Int) _ (by omega)).mono ?_
      rintro x v3 ⟨rfl, hb3⟩
      rw [hb3]
      clear hb3 v3
      rw [HE2.out]
      go_wp2
      go_ret
      exact ⟨ret_int rfl, HB2.out⟩
end Go.Proofs.YtdepaeajfldfbaaGreatDoor
