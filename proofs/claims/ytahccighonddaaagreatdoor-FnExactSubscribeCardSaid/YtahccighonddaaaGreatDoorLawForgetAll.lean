import Derived.Test.YtahccighonddaaaGreatDoorFabHelp0
import Derived.Test.YtahccighonddaaaGreatDoorSpecForget
import Derived.Test.YtahccighonddaaaGreatDoorRingPut2
import Derived.Deep.LoopGhost
import Derived.WalkMore
import Derived.Test.YtahccighonddaaaGreatDoorRingFault
import Derived.Test.YtahccighonddaaaGreatDoorLocks
namespace Go.Proofs.YtahccighonddaaaGreatDoor
open Go.RowKit Go.Maps
attribute [local go_sem ↓] Go.wp_at_zero Go.wp_at_succ
set_option linter.unusedSimpArgs false
set_option linter.unusedVariables false
variable {aN aF aR aS aM aL : Addr}
end Go.Proofs.YtahccighonddaaaGreatDoor
namespace Go.Proofs.YtahccighonddaaaGreatDoor
open Go.RowKit Go.Maps
attribute [local go_sem ↓] Go.wp_at_zero Go.wp_at_succ
set_option linter.unusedSimpArgs false
set_option linter.unusedVariables false
variable {aN aF aR aS aM aL : Addr}
theorem own_fitR {w : World} {base n q m p : Nat} {a b : Option Addr} {recs : List ByteArray} {curs : List (Int × Int)} (h : OwnRing w base a n q b m p (recs.map Value.string) (curCells curs)) (hs : ∀ s ∈ recs, s.size ≤ 1048576) (hn : n ≤ 1048576) (hm : m ≤ 1048576) : RFit w a n q b m p recs curs := by
  obtain ⟨a1, q1, e1, h1⟩ := own_strIn h.1
  obtain ⟨a2, q2, e2, h2⟩ := own_curIn h.2
  simp only [Value.slice.injEq] at e1 e2
  obtain ⟨rfl, _, rfl⟩ := e1
  obtain ⟨rfl, _, rfl⟩ := e2
  exact ⟨h1, h2, hs, hn, hm, nown_capMax h.1, nown_capMax h.2⟩
end Go.Proofs.YtahccighonddaaaGreatDoor
namespace Go.Proofs.YtahccighonddaaaGreatDoor
open Go.RowKit Go.Maps Go.MuLone
attribute [local go_sem ↓] Go.wp_at_zero Go.wp_at_succ
set_option linter.unusedSimpArgs false
set_option linter.unusedVariables false
variable {aN aF aR aS aM aL : Addr}
abbrev whO (s : Int) (p : Addr) : Obj := .cells #[.int .i32 s, .int .u32 0, .pointer (some p)] 153 (0, 0)
def QKeeps (Q : World → Prop) : Prop := (∀ u u', u.grownBy u' none → Q u → Q u') ∧ ∀ u u' X C T, u.grownBy u' (some X) → u.heap[X]? = some (.cells C T (0, 0)) → (T = 153 ∨ T = 63) → Q u → Q u'
def StepAns (w0 : World) (Wb : Nat) (Q : World → Prop) (A : RO) (v v' : World) (e : Ending) : Prop :=
  ∃ a q b p, e = .returned (ringOutV A.cap A.first a A.recs.length q b A.curs.length p A.k A.t A.d A.c) ∧ OwnRing v' w0.heap.size a A.recs.length q b A.curs.length p (A.recs.map Value.string) (curCells A.curs) ∧ Below w0.heap.size w0 v' ∧ v'.heap[Wb]? = v.heap[Wb]? ∧ Q v'
section
variable {lo : Nat} {u v : World} {B M : Nat} {ta : Option Addr} {tl tc : Nat} {ra : Option Addr} {rl rc : Nat} {ea : Option Addr} {el ec : Nat} {now began puts : Int} {ts : List TD} {rs : List RD} {es : List Int} {m : Nat} {D : DataW Unit}
theorem WK.other {X : Nat} (h : WK lo u B M ta tl tc ra rl rc ea el ec now began puts ts rs es m D) (hg : u.grownBy v (some X)) (hX : ¬ Mine B M ta ra ea X) (ht : ∀ t ∈ ts, t.off X) (hr : ∀ r ∈ rs, r.off X) : WK lo v B M ta tl tc ra rl rc ea el ec now began puts ts rs es m D := by
  unfold Mine at hX
  simp only [not_or] at hX
  obtain ⟨h1, h2, h3, h4, h5⟩ := hX
  exact ⟨(hg.block _ (fb_lt h.b) (by simp; omega)).trans h.b, h.m.kept hg (by simp; omega), own_keep h.t hg (.inr h3), own_keep h.r hg (.inr h4), own_keep h.e hg (.inr h5), fun t hm => (h.ft t hm).grown hg (ht t hm), fun r hm => (h.fr r hm).grown hg (hr r hm).1 (hr r hm).2, h.ot, h.or, h.lb, h.lm⟩
theorem WK.new_off {X : Nat} (h : WK lo u B M ta tl tc ra rl rc ea el ec now began puts ts rs es m D) (hX : u.heap.size ≤ X) : ¬ Mine B M ta ra ea X ∧ (∀ t ∈ ts, t.off X) ∧ ∀ r ∈ rs, r.off X :=
  ⟨fun hm => by have := (h.mine_lt hm).2; omega, fun t ht => ⟨fun x e he => by have := (h.ft t ht).r.lt x e; omega, fun x e he => by have := (h.ft t ht).l.lt x e; omega⟩,
   fun r hr => ⟨fun x e he => by have := (h.fr r hr).str.lt x e; omega, fun x e he => by have := (h.fr r hr).cur.lt x e; omega⟩⟩
theorem off_typed {w : World} {base e size n c X : Nat} {a : Option Addr} {C : Array Value} {ys : List Value} {T : TypeId} (h : w.ownsRow base e size (.slice a n c) n ys) (hX : w.heap[X]? = some (.cells C T (0, 0))) (hne : e ≠ T) : Off X a := fun x ea he => own_ne h hX hne (by rw [ea]; simp [blk?, he])
end
set_option maxRecDepth 100000 in
set_option maxHeartbeats 1500000 in
theorem impl_change {lo B M : Nat} {ta : Option Addr} {tl tc : Nat} {rl rc : Nat} {ea : Option Addr} {el ec : Nat} {now began puts : Int} {ts : List TD} {rs : List RD} {es : List Int} {m : Nat} {D : DataW Unit} (K : Nat) (caps : Array Value) (Wb g rb : Nat) (r : RD) (A : RO) (Q : World → Prop) (w0 w : World)
    (hcf : ∀ (args : Array Value) (w : World), (callFunc K args).run Tryz.prog w = .ok (.enter K args) w)
    (h : WK lo w0 B M ta tl tc (some ⟨rb, 0, none⟩) rl rc ea el ec now began puts ts rs es m D) (hg : rs[g]? = some r) (hb : Below w0.heap.size w0 w) (hWb : w.heap[Wb]? = some (whO 0 ⟨rb, g * 4, none⟩)) (hW0 : w0.heap.size ≤ Wb)
    (hS : Calls Tryz.prog K (#[r.v] ++ caps) (w.setCell ⟨Wb, 0, none⟩ (.int .i32 1)) fun e v' => StepAns w0 Wb Q A (w.setCell ⟨Wb, 0, none⟩ (.int .i32 1)) v' e)
    (hQ : QKeeps Q) (hG : A.c = 0 → RGood r A) :
    Calls Tryz.prog 106 #[.pointer (some ⟨Wb, 0, none⟩), .func (.func K) #[] caps] w fun x w' => Below lo w0 w' ∧ Q w' ∧
      (A.c ≠ 0 → x = .returned (faultV A.c) ∧ WK lo w' B M ta tl tc (some ⟨rb, 0, none⟩) rl rc ea el ec now began puts ts rs es m D) ∧
      (A.c = 0 → x = .returned .nilIface ∧ ∃ r' : RD, r'.strip = A.rd ∧ r'.rl = A.recs.length ∧ WK lo w' B M ta tl tc (some ⟨rb, 0, none⟩) rl rc ea el ec now began puts ts (rs.set g r') es m D) := by
  have HK : Hid (WK lo w0 B M ta tl tc (some ⟨rb, 0, none⟩) rl rc ea el ec now began puts ts rs es m D) := h
  have HG : Hid (rs[g]? = some r) := hg
  have HCF : Hid _ := hcf
  have HS : Hid (Calls Tryz.prog K (#[r.v] ++ caps) (w.setCell ⟨Wb, 0, none⟩ (.int .i32 1)) fun e v' => StepAns w0 Wb Q A (w.setCell ⟨Wb, 0, none⟩ (.int .i32 1)) v' e) := hS
  have HQQ : Hid (QKeeps Q) := hQ
  have HGD : Hid (A.c = 0 → RGood r A) := hG
  have HLO : Hid (w0.heap.size ≤ Wb) := hW0
  have HL : Hid (lo ≤ w0.heap.size) := Nat.le_of_lt (Nat.lt_of_le_of_lt h.lb (fb_lt h.b))
  have HRB : Hid (lo ≤ rb ∧ rb < w0.heap.size) := h.mine_lt (X := rb) (.inr (.inr (.inr (.inl rfl))))
  have HGL : Hid (g < rs.length) := (List.getElem?_eq_some_iff.1 hg).1
  have hgl : g < rl := by rw [← h.rngs.1]; exact (List.getElem?_eq_some_iff.1 hg).1
  have HW : Hid (w.heap[Wb]? = some (whO 0 ⟨rb, g * 4, none⟩)) := hWb
  have c0 := fun o => fb_cell HW.out o
  have f0 := fun o => unfrozen_of_block0 HW.out o
  have HB1 : Hid (Below w0.heap.size w0 (w.setCell ⟨Wb, 0, none⟩ (.int .i32 1))) := hb.setCell (p := ⟨Wb, 0, none⟩) hW0 _
  have HW1 : Hid ((w.setCell ⟨Wb, 0, none⟩ (.int .i32 1)).heap[Wb]? = some (whO 1 ⟨rb, g * 4, none⟩)) := heap_setCell_same w Wb 0 _ _ (.int .i32 1) hWb
  clear h hg hcf hS hQ hG hb hWb hW0
  go_enter_defers Tryz.func106, Tryz.ntmps106
  go_wp2_with fail
  refine (Go.MuLone.lock_free muLib ⟨Wb, 0, none⟩ _ (c0 0) (f0 0)).mono ?_
  rintro e w' ⟨rfl, rfl⟩
  clear c0 f0 HW
  obtain ⟨W1, hW1⟩ : ∃ W, w.setCell ⟨Wb, 0, none⟩ (.int .i32 1) = W := ⟨_, rfl⟩
  rw [hW1] at HS HB1 HW1 ⊢
  clear hW1
  have c1 := fun o => fb_cell HW1.out o
  obtain ⟨_, _, r1, e0, e1, g0, g1, g2, g3, _⟩ := rngsG_at keeps_fit HK.out.rngs HB1.out hgl
  cases e0
  obtain rfl := Option.some.inj (HG.out.symm.trans e1)
  simp only [Nat.zero_add] at g0 g1 g2 g3
  clear e1
  have hcf := HCF.out
  go_wp2_with fail
  refine Calls.mono HS.out ?_
  rintro x v ⟨a, q, b, p, rfl, ho, hbv, hwv, hqv⟩
  have HO : Hid (OwnRing v w0.heap.size a A.recs.length q b A.curs.length p (A.recs.map Value.string) (curCells A.curs)) := ho
  have HBV : Hid (Below w0.heap.size w0 v) := hbv
  have HWV : Hid (v.heap[Wb]? = some (whO 1 ⟨rb, g * 4, none⟩)) := hwv.trans HW1.out
  have HQV : Hid (Q v) := hqv
  clear ho hbv hwv hqv HS HCF hcf HW1 HB1 c1 g0 g1 g2 g3
  obtain ⟨U, hU⟩ : ∃ U, v.alloc (rOutO A a q b p) = U := ⟨_, rfl⟩
  have HX : Hid (U.heap[v.heap.size]? = some (rOutO A a q b p)) := by rw [← hU]; exact heap_alloc_new _ _
  have HBU : Hid (Below v.heap.size v U) := by rw [← hU]; exact fbelow_new _ _
  have HOU : Hid (OwnRing U w0.heap.size a A.recs.length q b A.curs.length p (A.recs.map Value.string) (curCells A.curs)) := ⟨own_below HO.out.1 HBU.out, own_below HO.out.2 HBU.out⟩
  have HB2 : Hid (Below w0.heap.size w0 U) := below_tr HBV.out HBU.out
  have HW2 : Hid (U.heap[Wb]? = some (whO 1 ⟨rb, g * 4, none⟩)) := (HBU.out.block _ (fb_lt HWV.out)).trans HWV.out
  have HQ2 : Hid (Q U) := HQQ.out.1 _ _ (tbelow_grown HBU.out) HQV.out
  have HUE : Hid (v.alloc (Obj.cells #[.int .i64 A.cap, .int .i64 A.first, .slice a A.recs.length q, .slice b A.curs.length p, .int .i64 A.k, .int .i64 A.t, .string A.d, .int .i64 A.c] 67 (0, 0)) = U) := hU
  obtain ⟨X, hX⟩ : ∃ X, v.heap.size = X := ⟨_, rfl⟩
  rw [hX] at HX
  have HXE : Hid (v.heap.size = X) := hX
  clear hU hX HO HBV HWV HQV HBU
  by_cases hc : A.c = 0
  case neg =>
    have hcb : (A.c != 0) = true := by simpa using hc
    have HC : Hid (A.c ≠ 0) := hc
    clear hc
    go_wp2_with fail
    rw [show v.alloc (Obj.cells #[.int .i64 A.cap, .int .i64 A.first, .slice a A.recs.length q, .slice b A.curs.length p, .int .i64 A.k, .int .i64 A.t, .string A.d, .int .i64 A.c] 67 (0, 0)) = U from HUE.out]
    refine leaves_cons (f := 160) (args := #[.pointer (some ⟨Wb, 0, none⟩)]) (by simp) (by simp [go_sem]) ?_
    refine (Go.MuLone.unlock_deferred muLib ⟨Wb, 0, none⟩ .returning _ (fb_cell HW2.out 0) (unfrozen_of_block0 HW2.out 0)).mono ?_
    rintro e u' w'' ⟨rfl, rfl, rfl⟩
    exact ⟨_, results_tmp rfl _ _ _, ((HB2.out.mono HL.out).setCell (p := ⟨Wb, 0, none⟩) (Nat.le_trans HL.out HLO.out) _), HQQ.out.2 U _ Wb _ _ (grown_setc U Wb 0 _) HW2.out (.inl rfl) HQ2.out, fun _ => ⟨rfl, HK.out.under (HB2.out.setCell (p := ⟨Wb, 0, none⟩) HLO.out _)⟩, fun e => absurd e HC.out⟩
  case pos =>
    have hcb : (A.c != 0) = false := by simp [hc]
    have HGOOD : Hid (RGood r A) := HGD.out hc
    have HC : Hid (A.c = 0) := hc
    clear hc
    have HKU : Hid (WK lo U B M ta tl tc (some ⟨rb, 0, none⟩) rl rc ea el ec now began puts ts rs es m D) := HK.out.under HB2.out
    have HFR : Hid (r.fit w0) := HK.out.fr r (List.mem_of_getElem? HG.out)
    have hrn : r.recs.length = r.rl := HFR.out.str.strs.1
    have hrle := HFR.out.rle
    have cx := fun o => fb_cell HX.out o
    have cw := fun o => fb_cell HW2.out o
    obtain ⟨_, _, r1, e0, e1, g0, g1, g2, g3, _⟩ := rngsG_at keeps_fit HKU.out.rngs (Below.refl _ _) hgl
    cases e0
    obtain rfl := Option.some.inj (HG.out.symm.trans e1)
    simp only [Nat.zero_add] at g0 g1 g2 g3
    clear e1
    have hfr := fun j => (HKU.out.r).frozenAt j
    have hfrd : ∀ j, U.drew.frozen? _ = _ := hfr
    have cxd : ∀ o, U.drew.cell? ⟨X, o, none⟩ = _ := cx
    have cwd : ∀ o, U.drew.cell? ⟨Wb, o, none⟩ = _ := cw
    have HKs : Hid (WK lo (set4 U.drew rb (g * 4) (.int .i64 A.cap) (.int .i64 A.first) (.slice a A.recs.length q) (.slice b A.curs.length p)) B M ta tl tc (some ⟨rb, 0, none⟩) rl rc ea el ec now began puts ts (rs.set g (⟨A.cap, A.first, a, A.recs.length, q, b, A.curs.length, p, A.recs, A.curs⟩ : RD)) es m D) :=
      (HKU.out.under ((Below.refl _ _).drew)).setR g HGL.out (⟨A.cap, A.first, a, A.recs.length, q, b, A.curs.length, p, A.recs, A.curs⟩ : RD) (RFit.below (own_fitR (n := A.recs.length) (m := A.curs.length) HOU.out (fun s hs => HFR.out.sz s (HGOOD.out.s s hs)) (by have := HGOOD.out.n; omega) (by have := HGOOD.out.m; omega)) ((Below.refl _ _).drew)) (fun Q hQ => ⟨off_new HOU.out.1 (HK.out.mine_lt hQ).2, off_new HOU.out.2 (HK.out.mine_lt hQ).2⟩)
    have hrb := HRB.out.1
    have HBs : Hid (Below lo w0 (set4 U.drew rb (g * 4) (.int .i64 A.cap) (.int .i64 A.first) (.slice a A.recs.length q) (.slice b A.curs.length p))) :=
      (((((HB2.out.mono HL.out).drew).setCell (p := ⟨rb, g * 4, none⟩) hrb _).setCell (p := ⟨rb, g * 4 + 1, none⟩) hrb _).setCell (p := ⟨rb, g * 4 + 2, none⟩) hrb _).setCell (p := ⟨rb, g * 4 + 3, none⟩) hrb _
    have hg4 := grown_set4 U.drew rb (g * 4) (.int .i64 A.cap) (.int .i64 A.first) (.slice a A.recs.length q) (.slice b A.curs.length p)
    have HWs : Hid ((set4 U.drew rb (g * 4) (.int .i64 A.cap) (.int .i64 A.first) (.slice a A.recs.length q) (.slice b A.curs.length p)).heap[Wb]? = some (whO 1 ⟨rb, g * 4, none⟩)) := (hg4.block _ (fb_lt (show U.drew.heap[Wb]? = _ from HW2.out)) (fun e => by cases e; have := HRB.out.2; have := HLO.out; omega)).trans HW2.out
    have HQs : Hid (Q (set4 U.drew rb (g * 4) (.int .i64 A.cap) (.int .i64 A.first) (.slice a A.recs.length q) (.slice b A.curs.length p))) := by
      obtain ⟨C, hC⟩ := own_typed HKU.out.r (by rfl)
      exact HQQ.out.2 U.drew _ rb C _ hg4 hC (.inr rfl) (HQQ.out.1 _ _ (tbelow_grown ((Below.refl _ _).drew)) HQ2.out)
    clear hrb hg4 hrn hrle
    go_upto_region 6 with fail
    rw [show v.alloc (Obj.cells #[.int .i64 A.cap, .int .i64 A.first, .slice a A.recs.length q, .slice b A.curs.length p, .int .i64 A.k, .int .i64 A.t, .string A.d, .int .i64 A.c] 67 (0, 0)) = U from HUE.out, HXE.out]
    go_cut [] from 28 to 35 (fun wd => Hid (WK lo wd B M ta tl tc (some ⟨rb, 0, none⟩) rl rc ea el ec now began puts ts (rs.set g (⟨A.cap, A.first, a, A.recs.length, q, b, A.curs.length, p, A.recs, A.curs⟩ : RD)) es m D) ∧ Hid (Below lo w0 wd) ∧ Hid (wd.heap[Wb]? = some (whO 1 ⟨rb, g * 4, none⟩)) ∧ Hid (Q wd))
    case first =>
      go_region
      all_goals
        go_wp2_with fail
        go_meet
        exact ⟨HKs, HBs, HWs, HQs⟩
    case rest =>
    obtain ⟨HK4, HB4, HW4, HQ4⟩ := hcut
    clear HKs HBs HWs HQs cx cw cxd cwd g0 g1 g2 g3 hfr hfrd
    go_wp2_with fail
    refine leaves_cons (f := 160) (args := #[.pointer (some ⟨Wb, 0, none⟩)]) (by simp) (by simp [go_sem]) ?_
    refine (Go.MuLone.unlock_deferred muLib ⟨Wb, 0, none⟩ .returning _ (fb_cell HW4.out 0) (unfrozen_of_block0 HW4.out 0)).mono ?_
    rintro e u' w'' ⟨rfl, rfl, rfl⟩
    have hoff := HK.out.new_off HLO.out
    refine ⟨_, results_tmp rfl _ _ _, HB4.out.setCell (p := ⟨Wb, 0, none⟩) (Nat.le_trans HL.out HLO.out) _, HQQ.out.2 _ _ Wb _ _ (grown_setc _ Wb 0 _) HW4.out (.inl rfl) HQ4.out, fun e => absurd HC.out e, fun _ => ⟨rfl, (⟨A.cap, A.first, a, A.recs.length, q, b, A.curs.length, p, A.recs, A.curs⟩ : RD), rfl, rfl, HK4.out.other (grown_setc _ Wb 0 _) hoff.1 hoff.2.1 fun x hx => ?_⟩⟩
    rcases List.mem_or_eq_of_mem_set hx with hx | rfl
    · exact hoff.2.2 x hx
    · exact ⟨off_typed HOU.out.1 HW2.out (by decide), off_typed HOU.out.2 HW2.out (by decide)⟩
end Go.Proofs.YtahccighonddaaaGreatDoor
namespace Go.Proofs.YtahccighonddaaaGreatDoor
open Go.RowKit Go.Maps
attribute [local go_sem ↓] Go.wp_at_zero Go.wp_at_succ
set_option linter.unusedSimpArgs false
set_option linter.unusedVariables false
variable {aN aF aR aS aM aL : Addr}
set_option maxRecDepth 100000 in
set_option maxHeartbeats 2000000 in
theorem impl_changeOn {lo B M : Nat} {ta : Option Addr} {tl tc : Nat} {ra : Option Addr} {rl rc : Nat} {ea : Option Addr} {el ec : Nat} {now began puts : Int} {ts : List TD} {rs : List RD} {es : List Int} {m : Nat} {D : DataW Unit} (K : Nat) (caps : Array Value) (g : Int) (A : RD → RO) (Q : World → Prop) (w : World)
    (hcf : ∀ (args : Array Value) (w : World), (callFunc K args).run Tryz.prog w = .ok (.enter K args) w)
    (h : WK lo w B M ta tl tc ra rl rc ea el ec now began puts ts rs es m D) (hrl : rl ≤ 1048576) (hE : Errs aN aF aR aS aM aL w)
    (hS : ∀ (G : Nat) (r : RD) (Wb : Nat) (v : World), g = (G : Int) → rs[G]? = some r → Below w.heap.size w v → w.heap.size ≤ Wb → Wb < v.heap.size → Calls Tryz.prog K (#[r.v] ++ caps) v fun e v' => StepAns w Wb Q (A r) v v' e)
    (hQ : QKeeps Q) (hG : ∀ r, (A r).c = 0 → RGood r (A r)) :
    Calls Tryz.prog 58 #[.pointer (some ⟨B, 0, none⟩), .int .i64 g, .func (.func K) #[] caps] w fun x w' => Below lo w w' ∧
      (¬ (0 ≤ g ∧ g < (rs.length : Int)) → x = .returned (errV aR) ∧ w' = w) ∧
      (∀ (G : Nat) (r : RD), g = (G : Int) → rs[G]? = some r → Q w' ∧ ((A r).c ≠ 0 → x = .returned (faultV (A r).c) ∧ WK lo w' B M ta tl tc ra rl rc ea el ec now began puts ts rs es m D) ∧
        ((A r).c = 0 → x = .returned .nilIface ∧ ∃ r' : RD, r'.strip = (A r).rd ∧ r'.rl = (A r).recs.length ∧ WK lo w' B M ta tl tc ra rl rc ea el ec now began puts ts (rs.set G r') es m D)) := by
  have HK : Hid (WK lo w B M ta tl tc ra rl rc ea el ec now began puts ts rs es m D) := h
  have HL : Hid (lo ≤ w.heap.size) := Nat.le_of_lt (Nat.lt_of_le_of_lt h.lb (fb_lt h.b))
  have hln := h.rngs.1
  have cR := hE.r.cell
  by_cases hg : 0 ≤ g ∧ g < (rs.length : Int)
  case neg =>
    have hd : decide (0 ≤ g ∧ g < (rl : Int)) = false := decide_eq_false (by omega)
    have HNG : Hid (¬ (0 ≤ g ∧ g < (rs.length : Int))) := hg
    have HNR : Hid (∀ (G : Nat) (r : RD), g = (G : Int) → rs[G]? ≠ some r) := fun G r e hr => hg ⟨by omega, by have := (List.getElem?_eq_some_iff.1 hr).1; omega⟩
    clear h hE hS hQ hG hg hcf
    go_enter Tryz.func58, Tryz.ntmps58
    go_wp2_with fail
    refine (impl_hasRing g _ HK.out.b hrl).mono ?_
    rintro x v ⟨rfl, hv⟩
    rw [hv, hd]
    clear hv v hd
    go_wp2
    go_ret
    exact ⟨(Below.refl _ _).mono HL.out, fun _ => ⟨rfl, rfl⟩, fun G r e hr => absurd hr (HNR.out G r e)⟩
  case pos =>
  obtain ⟨G, rfl⟩ : ∃ G : Nat, g = (G : Int) := ⟨g.toNat, by omega⟩
  obtain ⟨r, hr⟩ : ∃ r, rs[G]? = some r := ⟨rs[G]'(by omega), List.getElem?_eq_getElem _⟩
  have hd : decide (0 ≤ (G : Int) ∧ (G : Int) < (rl : Int)) = true := decide_eq_true (by omega)
  obtain ⟨rb, rfl⟩ := own_nform h.r (by omega)
  have hgi : (G : Int) < (rl : Int) := by omega
  have HBA : Hid (Below w.heap.size w (w.alloc (whO 0 ⟨rb, G * 4, none⟩))) := fbelow_new _ _
  have HC : Hid _ := impl_change K caps w.heap.size G rb r (A r) Q w (w.alloc (whO 0 ⟨rb, G * 4, none⟩)) hcf h hr (fbelow_new _ _) (heap_alloc_new _ _) (Nat.le_refl _)
    (hS G r w.heap.size _ rfl hr ((fbelow_new w (whO 0 ⟨rb, G * 4, none⟩)).setCell (p := ⟨w.heap.size, 0, none⟩) (Nat.le_refl _) _) (Nat.le_refl _) (by simp)) hQ (hG r)
  have HG : Hid (rs[G]? = some r) := hr
  have HNG : Hid (0 ≤ (G : Int) ∧ (G : Int) < (rs.length : Int)) := hg
  clear h hE hS hQ hG hg hcf hr hln
  go_enter Tryz.func58, Tryz.ntmps58
  go_wp2_with fail
  refine (impl_hasRing (G : Int) _ HK.out.b hrl).mono ?_
  rintro x v ⟨rfl, hv⟩
  rw [hv, hd]
  clear hv v hd
  have cb := fun o => fb_cell HK.out.b o
  go_wp2_with fail
  refine Calls.mono HC.out ?_
  rintro x v ⟨hb, hq, h1, h2⟩
  have HB : Hid (Below lo w v) := hb
  have HR : Hid (∀ (G' : Nat) (r' : RD), (G : Int) = (G' : Int) → rs[G']? = some r' → Q v ∧ ((A r').c ≠ 0 → x = .returned (faultV (A r').c) ∧ WK lo v B M ta tl tc (some ⟨rb, 0, none⟩) rl rc ea el ec now began puts ts rs es m D) ∧
        ((A r').c = 0 → x = .returned .nilIface ∧ ∃ r'' : RD, r''.strip = (A r').rd ∧ r''.rl = (A r').recs.length ∧ WK lo v B M ta tl tc (some ⟨rb, 0, none⟩) rl rc ea el ec now began puts ts (rs.set G' r'') es m D)) := fun G' r' e hr' => by
    obtain rfl : G = G' := by omega
    obtain rfl := Option.some.inj (HG.out.symm.trans hr')
    exact ⟨hq, h1, h2⟩
  have hx : x = .returned (if (A r).c = 0 then .nilIface else faultV (A r).c) := by
    by_cases hc : (A r).c = 0
    · rw [if_pos hc]; exact (h2 hc).1
    · rw [if_neg hc]; exact (h1 hc).1
  subst hx
  clear hb hq h1 h2 HC cb
  obtain ⟨X, hX⟩ : ∃ X : Value, (if (A r).c = 0 then Value.nilIface else faultV (A r).c) = X := ⟨_, rfl⟩
  rw [hX] at HR ⊢
  clear hX
  go_wp2
  go_ret
  exact ⟨HB.out, fun hn => absurd HNG.out hn, HR.out⟩
theorem keeps_true : QKeeps fun _ => True := ⟨fun _ _ _ _ => trivial, fun _ _ _ _ _ _ _ _ _ => trivial⟩
theorem callSubscribe11 (args : Array Value) (w : World) : (callFunc 59 args).run Tryz.prog w = .ok (.enter 59 args) w := by
  simp [go_sem, Tryz.func59]
set_option maxRecDepth 100000 in
set_option maxHeartbeats 2000000 in
theorem impl_Subscribe11 (pb : Nat) (n : Int) (r : RD) (w : World) (hf : r.fit w) (hT : utabs w) (hc : w.cell? ⟨pb, 0, none⟩ = some (.int .i64 n)) :
    Calls Tryz.prog 59 #[r.v, .pointer (some ⟨pb, 0, none⟩)] w fun e w' => Answers w w' e (followR r.cap r.first r.recs r.curs n) := by
  have HF : Hid (r.fit w) := hf
  have HT : Hid (utabs w) := hT
  have hpb : pb < w.heap.size := World.block_lt_of_cell? w ⟨pb, 0, none⟩ hc
  obtain ⟨W, hW⟩ : ∃ W, (w.alloc r.obj).alloc outObj0 = W := ⟨_, rfl⟩
  have HB : Hid (Below w.heap.size w W) := by subst hW; exact below_tr (fbelow_new _ _) (fbelow_new _ _)
  have HX0 : Hid (W.heap[w.heap.size]? = some r.obj) := by
    subst hW
    exact ((fbelow_new _ _).block _ (by simp only [World.size_alloc]; omega)).trans (heap_alloc_new _ _)
  have HX1 : Hid (W.heap[w.heap.size + 1]? = some outObj0) := by
    subst hW
    have h1 := heap_alloc_new (w.alloc r.obj) outObj0
    rwa [World.size_alloc] at h1
  have hcW : W.cell? ⟨pb, 0, none⟩ = some (.int .i64 n) := cell_below hc HB.out
  have c0 := fun o => fb_cell HX0.out o
  obtain ⟨R, hR⟩ : ∃ R, followR r.cap r.first r.recs r.curs n = R := ⟨_, rfl⟩
  have HR : Hid (followR r.cap r.first r.recs r.curs n = R) := hR
  have HWE : Hid ((w.alloc r.obj).alloc outObj0 = W) := hW
  rw [hR]
  have hcE : ((w.alloc (Obj.cells #[.int .i64 r.cap, .int .i64 r.first, .slice r.ra r.rl r.rc, .slice r.ca r.cl r.cc] 63 (0, 0))).alloc (Obj.cells #[.int .i64 0, .int .i64 0, .slice none 0 0, .slice none 0 0, .int .i64 0, .int .i64 0, .string ⟨#[]⟩, .int .i64 0] 67 (0, 0))).cell? ⟨pb, 0, none⟩ = some (.int .i64 n) := by rw [show (w.alloc (Obj.cells #[.int .i64 r.cap, .int .i64 r.first, .slice r.ra r.rl r.rc, .slice r.ca r.cl r.cc] 63 (0, 0))).alloc (Obj.cells #[.int .i64 0, .int .i64 0, .slice none 0 0, .slice none 0 0, .int .i64 0, .int .i64 0, .string ⟨#[]⟩, .int .i64 0] 67 (0, 0)) = W from hW]; exact hcW
  clear hf hT hc hR hW
  go_enter Tryz.func59, Tryz.ntmps59
  go_wp2_with fail
  rw [show (w.alloc (Obj.cells #[.int .i64 r.cap, .int .i64 r.first, .slice r.ra r.rl r.rc, .slice r.ca r.cl r.cc] 63 (0, 0))).alloc (Obj.cells #[.int .i64 0, .int .i64 0, .slice none 0 0, .slice none 0 0, .int .i64 0, .int .i64 0, .string ⟨#[]⟩, .int .i64 0] 67 (0, 0)) = W from HWE.out]
  refine (impl_follow (cap := r.cap) (first := r.first) r.recs r.curs n W (HF.out.below HB.out) (utabs_below HT.out HB.out)).mono ?_
  rintro x v ha
  rw [HR.out] at ha
  obtain ⟨a, q, b, p, rfl, ho, hb⟩ := ha
  have HO : Hid (OwnRing v W.heap.size a R.recs.length q b R.curs.length p (R.recs.map Value.string) (curCells R.curs)) := ho
  have HBV : Hid (Below w.heap.size w v) := below_tr HB.out hb
  have HXV : Hid (v.heap[w.heap.size + 1]? = some outObj0) := (hb.block _ (fb_lt HX1.out)).trans HX1.out
  have HZ : Hid (w.heap.size + 1 < W.heap.size) := fb_lt HX1.out
  have cx := fun o => fb_cell HXV.out o
  have fx := fun o => unfrozen_of_block0 HXV.out o
  clear ho hb c0 HX0 HX1 hcW hcE
  go_wp2
  exact bodyPost_ret (v := rOutV R a q b p) (by simp [results, Tryz.results59, go_sem, cx]) rfl ⟨a, q, b, p, rfl, ⟨own_base (own_set8 HO.out.1 (w.heap.size + 1) HZ.out _ _ _ _ _ _ _ _) (by have := HZ.out; omega), own_base (own_set8 HO.out.2 (w.heap.size + 1) HZ.out _ _ _ _ _ _ _ _) (by have := HZ.out; omega)⟩, below_set8 HBV.out (w.heap.size + 1) (Nat.le_succ _) _ _ _ _ _ _ _ _⟩
theorem step_Subscribe {w0 v v' : World} {e : Ending} {A : RO} {Wb : Nat} (h : Answers v v' e A) (hb : Below w0.heap.size w0 v) (hW : Wb < v.heap.size) : StepAns w0 Wb (fun _ => True) A v v' e := by
  obtain ⟨a, q, b, p, rfl, ho, hv⟩ := h
  exact ⟨a, q, b, p, rfl, ⟨own_base ho.1 hb.size, own_base ho.2 hb.size⟩, below_tr hb hv, hv.block _ hW, trivial⟩
set_option maxRecDepth 100000 in
set_option maxHeartbeats 1000000 in
theorem impl_Subscribe1 {lo B M : Nat} {ta : Option Addr} {tl tc : Nat} {ra : Option Addr} {rl rc : Nat} {ea : Option Addr} {ec : Nat} {now : Int} {ts : List TD} {rs : List RD} {es : List Int} (g n : Int) (pb0 pb1 : Nat) (w : World)
    (h : WK lo w B M ta tl tc ra rl rc ea 4 ec now (endSum rs) 0 ts rs es tl (openD ts tl)) (hU : utabs w) (hE : Errs aN aF aR aS aM aL w) (hR : fabRightB rs es ts now = true) (_hw_g : -9223372036854775808 ≤ g ∧ g ≤ 9223372036854775807) (_hw_n : -9223372036854775808 ≤ n ∧ n ≤ 9223372036854775807) (hc0 : w.cell? ⟨pb0, 0, none⟩ = some (.int .i64 g)) (hc1 : w.cell? ⟨pb1, 0, none⟩ = some (.int .i64 n)) :
    Calls Tryz.prog 57 #[.pointer (some ⟨B, 0, none⟩), .pointer (some ⟨pb0, 0, none⟩), .pointer (some ⟨pb1, 0, none⟩)] w fun x w' => Below lo w w' ∧ WorkAns aN aF aR aS aM aL lo B (endSum rs) (grpR (fun r => followR r.cap r.first r.recs r.curs n) rs es ts now g) x w' := by
  have hmf : ∀ (fn : Fn) (first cap : Array Value) (w : World), (Instr.makeFunc fn first cap).run Tryz.prog w = .ok (.func fn first cap) w := fun _ _ _ _ => rfl
  have hz := right_sizes hR
  have hrl : rl ≤ 4 := by have := hz.2.1; have := h.rngs.1; omega
  have htl : tl ≤ 12 := by have := hz.2.2.2; have := h.txs.1; omega
  have HRL : Hid (rl ≤ 4 ∧ tl ≤ 12) := ⟨hrl, htl⟩
  have HFIN : Hid (∀ r ∈ rs, 0 ≤ r.first ∧ r.first ≤ 1000000) := right_fin hR
  have HLEN : Hid (∀ r ∈ rs, r.recs.length = r.rl) := fun r hr => (h.fr r hr).str.strs.1
  have HK : Hid (WK lo w B M ta tl tc ra rl rc ea 4 ec now (endSum rs) 0 ts rs es tl (openD ts tl)) := h
  have HC : Hid _ := impl_changeOn (aN := aN) (aF := aF) (aR := aR) (aS := aS) (aM := aM) (aL := aL) 59 #[.pointer (some ⟨pb1, 0, none⟩)] g (fun r => followR r.cap r.first r.recs r.curs n) (fun _ => True) w callSubscribe11 h (by omega) hE
    (fun G r Wb v _ hr hb hW hW2 => (impl_Subscribe11 pb1 n r v ((h.fr r (List.mem_of_getElem? hr)).below hb) (utabs_below hU hb) (cell_below hc1 hb)).mono fun e v' ha => step_Subscribe ha hb hW2) keeps_true (fun r => follow_good)
  clear h hU hE hR hz hrl htl
  go_enter Tryz.func57, Tryz.ntmps57
  go_wp2_with fail
  refine Calls.mono HC.out ?_
  rintro x v ⟨hb, h1, h2⟩
  have HB : Hid (Below lo w v) := hb
  have HA : Hid (∃ y, x = .returned y ∧ WorkAns aN aF aR aS aM aL lo B (endSum rs) (grpR (fun r => followR r.cap r.first r.recs r.curs n) rs es ts now g) (.returned (.tuple #[.int .i64 0, y])) v) := by
    unfold grpR
    by_cases hg : 0 ≤ g ∧ g < (rs.length : Int)
    case neg =>
      obtain ⟨rfl, rfl⟩ := h1 hg
      rw [if_neg hg]
      exact ⟨_, rfl, 0, _, _, rfl, fun u hu => why_R u hu⟩
    case pos =>
    obtain ⟨G, rfl⟩ : ∃ G : Nat, g = (G : Int) := ⟨g.toNat, by omega⟩
    obtain ⟨r, hr⟩ : ∃ r, rs[G]? = some r := ⟨rs[G]'(by omega), List.getElem?_eq_getElem _⟩
    obtain ⟨_, h3, h4⟩ := h2 G r rfl hr
    rw [if_pos hg, show ((G : Int)).toNat = G by omega, hr]
    simp only
    by_cases hc : (followR r.cap r.first r.recs r.curs n).c = 0
    case neg =>
      obtain ⟨rfl, _⟩ := h3 hc
      rw [if_neg hc]
      exact ⟨_, rfl, 0, _, _, rfl, fun u hu => why_ring _ u hu⟩
    case pos =>
      obtain ⟨rfl, r', hs, hl, hk⟩ := h4 hc
      rw [if_pos hc]
      have hgd : RGood r (followR r.cap r.first r.recs r.curs n) := follow_good hc
      have hs' := hs
      simp only [RD.strip, RO.rd, RD.mk.injEq, true_and] at hs'
      have hsum : endSum (rs.set G r') = endSum rs := endSum_setG hr (by rw [hl, hs'.2.1]; have := hgd.e; have := HLEN.out r (List.mem_of_getElem? hr); omega)
      refine ⟨_, rfl, M, ta, tl, tc, ra, rl, rc, ea, ec, 0, ts, rs.set G r', tl, openD ts tl, rfl, hk, by rw [hsum]; omega, by omega, HRL.out.1, HRL.out.2, fun q hq => ?_, ?_, rfl⟩
      · rcases List.mem_or_eq_of_mem_set hq with hq | rfl
        · exact HFIN.out q hq
        · rw [hs'.2.1]; exact hgd.f
      · show (rs.set G r').map RD.strip = (rs.set G _).map RD.strip
        rw [List.map_set, List.map_set, hs]
        rfl
  clear hb h1 h2 HC hc0 hc1
  obtain ⟨y, rfl, HA2⟩ := HA.out
  have HA3 : Hid _ := HA2
  clear HA HA2
  go_wp2
  exact bodyPost_ret (v := .tuple #[.int .i64 0, y]) (by simp [results, Tryz.results57, go_sem]) rfl ⟨HB.out, HA3.out⟩
theorem callSubscribe1 (args : Array Value) (w : World) : (callFunc 57 args).run Tryz.prog w = .ok (.enter 57 args) w := by
  simp [go_sem, Tryz.func57]
theorem callForget11 (args : Array Value) (w : World) : (callFunc 74 args).run Tryz.prog w = .ok (.enter 74 args) w := by
  simp [go_sem, Tryz.func74]
set_option maxRecDepth 100000 in
set_option maxHeartbeats 2000000 in
theorem impl_Forget11 (pb : Nat) (n : Int) (r : RD) (w : World) (hf : r.fit w) (hT : utabs w) (hc : w.cell? ⟨pb, 0, none⟩ = some (.int .i64 n)) :
    Calls Tryz.prog 74 #[r.v, .pointer (some ⟨pb, 0, none⟩)] w fun e w' => Answers w w' e (leaveR r.cap r.first r.recs r.curs n) := by
  have HF : Hid (r.fit w) := hf
  have HT : Hid (utabs w) := hT
  have hpb : pb < w.heap.size := World.block_lt_of_cell? w ⟨pb, 0, none⟩ hc
  obtain ⟨W, hW⟩ : ∃ W, (w.alloc r.obj).alloc outObj0 = W := ⟨_, rfl⟩
  have HB : Hid (Below w.heap.size w W) := by subst hW; exact below_tr (fbelow_new _ _) (fbelow_new _ _)
  have HX0 : Hid (W.heap[w.heap.size]? = some r.obj) := by
    subst hW
    exact ((fbelow_new _ _).block _ (by simp only [World.size_alloc]; omega)).trans (heap_alloc_new _ _)
  have HX1 : Hid (W.heap[w.heap.size + 1]? = some outObj0) := by
    subst hW
    have h1 := heap_alloc_new (w.alloc r.obj) outObj0
    rwa [World.size_alloc] at h1
  have hcW : W.cell? ⟨pb, 0, none⟩ = some (.int .i64 n) := cell_below hc HB.out
  have c0 := fun o => fb_cell HX0.out o
  obtain ⟨R, hR⟩ : ∃ R, leaveR r.cap r.first r.recs r.curs n = R := ⟨_, rfl⟩
  have HR : Hid (leaveR r.cap r.first r.recs r.curs n = R) := hR
  have HWE : Hid ((w.alloc r.obj).alloc outObj0 = W) := hW
  rw [hR]
  have hcE : ((w.alloc (Obj.cells #[.int .i64 r.cap, .int .i64 r.first, .slice r.ra r.rl r.rc, .slice r.ca r.cl r.cc] 63 (0, 0))).alloc (Obj.cells #[.int .i64 0, .int .i64 0, .slice none 0 0, .slice none 0 0, .int .i64 0, .int .i64 0, .string ⟨#[]⟩, .int .i64 0] 67 (0, 0))).cell? ⟨pb, 0, none⟩ = some (.int .i64 n) := by rw [show (w.alloc (Obj.cells #[.int .i64 r.cap, .int .i64 r.first, .slice r.ra r.rl r.rc, .slice r.ca r.cl r.cc] 63 (0, 0))).alloc (Obj.cells #[.int .i64 0, .int .i64 0, .slice none 0 0, .slice none 0 0, .int .i64 0, .int .i64 0, .string ⟨#[]⟩, .int .i64 0] 67 (0, 0)) = W from hW]; exact hcW
  clear hf hT hc hR hW
  go_enter Tryz.func74, Tryz.ntmps74
  go_wp2_with fail
  rw [show (w.alloc (Obj.cells #[.int .i64 r.cap, .int .i64 r.first, .slice r.ra r.rl r.rc, .slice r.ca r.cl r.cc] 63 (0, 0))).alloc (Obj.cells #[.int .i64 0, .int .i64 0, .slice none 0 0, .slice none 0 0, .int .i64 0, .int .i64 0, .string ⟨#[]⟩, .int .i64 0] 67 (0, 0)) = W from HWE.out]
  refine (impl_leave (cap := r.cap) (first := r.first) r.recs r.curs n W (HF.out.below HB.out) (utabs_below HT.out HB.out)).mono ?_
  rintro x v ha
  rw [HR.out] at ha
  obtain ⟨a, q, b, p, rfl, ho, hb⟩ := ha
  have HO : Hid (OwnRing v W.heap.size a R.recs.length q b R.curs.length p (R.recs.map Value.string) (curCells R.curs)) := ho
  have HBV : Hid (Below w.heap.size w v) := below_tr HB.out hb
  have HXV : Hid (v.heap[w.heap.size + 1]? = some outObj0) := (hb.block _ (fb_lt HX1.out)).trans HX1.out
  have HZ : Hid (w.heap.size + 1 < W.heap.size) := fb_lt HX1.out
  have cx := fun o => fb_cell HXV.out o
  have fx := fun o => unfrozen_of_block0 HXV.out o
  clear ho hb c0 HX0 HX1 hcW hcE
  go_wp2
  exact bodyPost_ret (v := rOutV R a q b p) (by simp [results, Tryz.results74, go_sem, cx]) rfl ⟨a, q, b, p, rfl, ⟨own_base (own_set8 HO.out.1 (w.heap.size + 1) HZ.out _ _ _ _ _ _ _ _) (by have := HZ.out; omega), own_base (own_set8 HO.out.2 (w.heap.size + 1) HZ.out _ _ _ _ _ _ _ _) (by have := HZ.out; omega)⟩, below_set8 HBV.out (w.heap.size + 1) (Nat.le_succ _) _ _ _ _ _ _ _ _⟩
theorem step_Forget {w0 v v' : World} {e : Ending} {A : RO} {Wb : Nat} (h : Answers v v' e A) (hb : Below w0.heap.size w0 v) (hW : Wb < v.heap.size) : StepAns w0 Wb (fun _ => True) A v v' e := by
  obtain ⟨a, q, b, p, rfl, ho, hv⟩ := h
  exact ⟨a, q, b, p, rfl, ⟨own_base ho.1 hb.size, own_base ho.2 hb.size⟩, below_tr hb hv, hv.block _ hW, trivial⟩
set_option maxRecDepth 100000 in
set_option maxHeartbeats 1000000 in
theorem impl_Forget1 {lo B M : Nat} {ta : Option Addr} {tl tc : Nat} {ra : Option Addr} {rl rc : Nat} {ea : Option Addr} {ec : Nat} {now : Int} {ts : List TD} {rs : List RD} {es : List Int} (g n : Int) (pb0 pb1 : Nat) (w : World)
    (h : WK lo w B M ta tl tc ra rl rc ea 4 ec now (endSum rs) 0 ts rs es tl (openD ts tl)) (hU : utabs w) (hE : Errs aN aF aR aS aM aL w) (hR : fabRightB rs es ts now = true) (_hw_g : -9223372036854775808 ≤ g ∧ g ≤ 9223372036854775807) (_hw_n : -9223372036854775808 ≤ n ∧ n ≤ 9223372036854775807) (hc0 : w.cell? ⟨pb0, 0, none⟩ = some (.int .i64 g)) (hc1 : w.cell? ⟨pb1, 0, none⟩ = some (.int .i64 n)) :
    Calls Tryz.prog 73 #[.pointer (some ⟨B, 0, none⟩), .pointer (some ⟨pb0, 0, none⟩), .pointer (some ⟨pb1, 0, none⟩)] w fun x w' => Below lo w w' ∧ WorkAns aN aF aR aS aM aL lo B (endSum rs) (grpR (fun r => leaveR r.cap r.first r.recs r.curs n) rs es ts now g) x w' := by
  have hmf : ∀ (fn : Fn) (first cap : Array Value) (w : World), (Instr.makeFunc fn first cap).run Tryz.prog w = .ok (.func fn first cap) w := fun _ _ _ _ => rfl
  have hz := right_sizes hR
  have hrl : rl ≤ 4 := by have := hz.2.1; have := h.rngs.1; omega
  have htl : tl ≤ 12 := by have := hz.2.2.2; have := h.txs.1; omega
  have HRL : Hid (rl ≤ 4 ∧ tl ≤ 12) := ⟨hrl, htl⟩
  have HFIN : Hid (∀ r ∈ rs, 0 ≤ r.first ∧ r.first ≤ 1000000) := right_fin hR
  have HLEN : Hid (∀ r ∈ rs, r.recs.length = r.rl) := fun r hr => (h.fr r hr).str.strs.1
  have HK : Hid (WK lo w B M ta tl tc ra rl rc ea 4 ec now (endSum rs) 0 ts rs es tl (openD ts tl)) := h
  have HC : Hid _ := impl_changeOn (aN := aN) (aF := aF) (aR := aR) (aS := aS) (aM := aM) (aL := aL) 74 #[.pointer (some ⟨pb1, 0, none⟩)] g (fun r => leaveR r.cap r.first r.recs r.curs n) (fun _ => True) w callForget11 h (by omega) hE
    (fun G r Wb v _ hr hb hW hW2 => (impl_Forget11 pb1 n r v ((h.fr r (List.mem_of_getElem? hr)).below hb) (utabs_below hU hb) (cell_below hc1 hb)).mono fun e v' ha => step_Forget ha hb hW2) keeps_true (fun r => leave_good)
  clear h hU hE hR hz hrl htl
  go_enter Tryz.func73, Tryz.ntmps73
  go_wp2_with fail
  refine Calls.mono HC.out ?_
  rintro x v ⟨hb, h1, h2⟩
  have HB : Hid (Below lo w v) := hb
  have HA : Hid (∃ y, x = .returned y ∧ WorkAns aN aF aR aS aM aL lo B (endSum rs) (grpR (fun r => leaveR r.cap r.first r.recs r.curs n) rs es ts now g) (.returned (.tuple #[.int .i64 0, y])) v) := by
    unfold grpR
    by_cases hg : 0 ≤ g ∧ g < (rs.length : Int)
    case neg =>
      obtain ⟨rfl, rfl⟩ := h1 hg
      rw [if_neg hg]
      exact ⟨_, rfl, 0, _, _, rfl, fun u hu => why_R u hu⟩
    case pos =>
    obtain ⟨G, rfl⟩ : ∃ G : Nat, g = (G : Int) := ⟨g.toNat, by omega⟩
    obtain ⟨r, hr⟩ : ∃ r, rs[G]? = some r := ⟨rs[G]'(by omega), List.getElem?_eq_getElem _⟩
    obtain ⟨_, h3, h4⟩ := h2 G r rfl hr
    rw [if_pos hg, show ((G : Int)).toNat = G by omega, hr]
    simp only
    by_cases hc : (leaveR r.cap r.first r.recs r.curs n).c = 0
    case neg =>
      obtain ⟨rfl, _⟩ := h3 hc
      rw [if_neg hc]
      exact ⟨_, rfl, 0, _, _, rfl, fun u hu => why_ring _ u hu⟩
    case pos =>
      obtain ⟨rfl, r', hs, hl, hk⟩ := h4 hc
      rw [if_pos hc]
      have hgd : RGood r (leaveR r.cap r.first r.recs r.curs n) := leave_good hc
      have hs' := hs
      simp only [RD.strip, RO.rd, RD.mk.injEq, true_and] at hs'
      have hsum : endSum (rs.set G r') = endSum rs := endSum_setG hr (by rw [hl, hs'.2.1]; have := hgd.e; have := HLEN.out r (List.mem_of_getElem? hr); omega)
      refine ⟨_, rfl, M, ta, tl, tc, ra, rl, rc, ea, ec, 0, ts, rs.set G r', tl, openD ts tl, rfl, hk, by rw [hsum]; omega, by omega, HRL.out.1, HRL.out.2, fun q hq => ?_, ?_, rfl⟩
      · rcases List.mem_or_eq_of_mem_set hq with hq | rfl
        · exact HFIN.out q hq
        · rw [hs'.2.1]; exact hgd.f
      · show (rs.set G r').map RD.strip = (rs.set G _).map RD.strip
        rw [List.map_set, List.map_set, hs]
        rfl
  clear hb h1 h2 HC hc0 hc1
  obtain ⟨y, rfl, HA2⟩ := HA.out
  have HA3 : Hid _ := HA2
  clear HA HA2
  go_wp2
  exact bodyPost_ret (v := .tuple #[.int .i64 0, y]) (by simp [results, Tryz.results73, go_sem]) rfl ⟨HB.out, HA3.out⟩
theorem callForget1 (args : Array Value) (w : World) : (callFunc 73 args).run Tryz.prog w = .ok (.enter 73 args) w := by
  simp [go_sem, Tryz.func73]
end Go.Proofs.YtahccighonddaaaGreatDoor
namespace Go.Proofs.YtahccighonddaaaGreatDoor
open Go.RowKit Go.Maps
attribute [local go_sem ↓] Go.wp_at_zero Go.wp_at_succ
set_option linter.unusedSimpArgs false
set_option linter.unusedVariables false
variable {aN aF aR aS aM aL : Addr}
set_option maxRecDepth 100000 in
set_option maxHeartbeats 2000000 in
theorem impl_Subscribe (ra : Option Addr) (rl rc : Nat) (ea : Option Addr) (el ec : Nat) (ta : Option Addr) (tl tc : Nat) (now : Int) (n : Int) (g : Int) (rs : List RD) (es : List Int) (ts : List TD) (w : World)
    (hi : FIn w ra rl ea el ta tl rs es ts) (hU : utabs w) (hE : Errs aN aF aR aS aM aL w) (hw_n : -9223372036854775808 ≤ n ∧ n ≤ 9223372036854775807) (hw_g : -9223372036854775808 ≤ g ∧ g ≤ 9223372036854775807) (hn : (ra = none → rl = 0 ∧ rc = 0) ∧ (ea = none → el = 0 ∧ ec = 0) ∧ (ta = none → tl = 0 ∧ tc = 0)) :
    Calls Tryz.prog 17 #[fabVal ra rl rc ea el ec ta tl tc now, .int .i64 n, .int .i64 g] w fun x w' => ((fabRightB rs es ts now = false → x = .returned (illV 1)) ∧ (fabRightB rs es ts now = true → FaceAns w w' (grpR (fun r => followR r.cap r.first r.recs r.curs n) rs es ts now g) x)) ∧ Below w.heap.size w w' := by
  have hmf : ∀ (fn : Fn) (first cap : Array Value) (w : World), (Instr.makeFunc fn first cap).run Tryz.prog w = .ok (.func fn first cap) w := fun _ _ _ _ => rfl
  obtain ⟨W, hW⟩ : ∃ W, (((w.alloc (fabO ra rl rc ea el ec ta tl tc now)).alloc (.cells #[.int .i64 n] 2 (0, 0))).alloc (.cells #[.int .i64 g] 2 (0, 0))).alloc (outO none 0 0 none 0 0 none 0 0 0 0 0) = W := ⟨_, rfl⟩
  have HBW : Hid (Below w.heap.size w W) := by
    subst hW
    exact below_tr (below_tr (below_tr (fbelow_new _ _) (fbelow_new _ _)) (fbelow_new _ _)) (fbelow_new _ _)
  have HX0 : Hid (W.heap[w.heap.size]? = some (fabO ra rl rc ea el ec ta tl tc now)) := by
    subst hW
    have h1 := heap_alloc_new w (fabO ra rl rc ea el ec ta tl tc now)
    exact ((fbelow_new _ _).block _ (by simp only [World.size_alloc]; omega)).trans (((fbelow_new _ _).block _ (by simp only [World.size_alloc]; omega)).trans (((fbelow_new _ _).block _ (by simp only [World.size_alloc]; omega)).trans (h1)))
  have HX1 : Hid (W.heap[w.heap.size + 1]? = some (.cells #[.int .i64 n] 2 (0, 0))) := by
    subst hW
    have h1 := heap_alloc_new (w.alloc (fabO ra rl rc ea el ec ta tl tc now)) (.cells #[.int .i64 n] 2 (0, 0))
    simp only [World.size_alloc] at h1
    exact ((fbelow_new _ _).block _ (by simp only [World.size_alloc]; omega)).trans (((fbelow_new _ _).block _ (by simp only [World.size_alloc]; omega)).trans (h1))
  have HX2 : Hid (W.heap[w.heap.size + 1 + 1]? = some (.cells #[.int .i64 g] 2 (0, 0))) := by
    subst hW
    have h1 := heap_alloc_new ((w.alloc (fabO ra rl rc ea el ec ta tl tc now)).alloc (.cells #[.int .i64 n] 2 (0, 0))) (.cells #[.int .i64 g] 2 (0, 0))
    simp only [World.size_alloc] at h1
    exact ((fbelow_new _ _).block _ (by simp only [World.size_alloc]; omega)).trans (h1)
  have HX3 : Hid (W.heap[w.heap.size + 1 + 1 + 1]? = some (outO none 0 0 none 0 0 none 0 0 0 0 0)) := by
    subst hW
    have h1 := heap_alloc_new (((w.alloc (fabO ra rl rc ea el ec ta tl tc now)).alloc (.cells #[.int .i64 n] 2 (0, 0))).alloc (.cells #[.int .i64 g] 2 (0, 0))) (outO none 0 0 none 0 0 none 0 0 0 0 0)
    simp only [World.size_alloc] at h1
    exact h1
  have HF : Hid _ := impl_face (aN := aN) (aF := aF) (aR := aR) (aS := aS) (aM := aM) (aL := aL) 57 #[.pointer (some ⟨w.heap.size + 1 + 1, 0, none⟩), .pointer (some ⟨w.heap.size + 1, 0, none⟩)] ra rl rc ea el ec ta tl tc now rs es ts (grpR (fun r => followR r.cap r.first r.recs r.curs n) rs es ts now g) W callSubscribe1 (hi.below HBW.out) (utabs_below hU HBW.out) (hE.below HBW.out) hn
    (fun hR v B M ta' tc' ra' rc' ea' ec' hb hk => impl_Subscribe1 g n (w.heap.size + 1 + 1) (w.heap.size + 1) v hk (utabs_below (utabs_below hU HBW.out) hb) ((hE.below HBW.out).below hb) hR hw_g hw_n (fb_cell ((hb.block _ (fb_lt HX2.out)).trans HX2.out) 0) (fb_cell ((hb.block _ (fb_lt HX1.out)).trans HX1.out) 0))
  have hle : w.heap.size ≤ w.heap.size + 1 + 1 + 1 := by omega
  have c0 := fun o => fb_cell HX0.out o
  clear hi hU hE hn hw_n hw_g
  go_enter Tryz.func17, Tryz.ntmps17
  go_wp2_with fail
  refine Calls.mono HF.out ?_
  rintro x v ⟨⟨hx1, hx2⟩, hb⟩
  have HB : Hid (Below w.heap.size w v) := below_tr HBW.out hb
  have HX1 : Hid (v.heap[w.heap.size + 1 + 1 + 1]? = some (outO none 0 0 none 0 0 none 0 0 0 0 0)) := (hb.block _ (fb_lt HX3.out)).trans HX3.out
  have HZ : Hid (w.heap.size ≤ W.heap.size) := HBW.out.size
  have cx := fun o => fb_cell HX1.out o
  have fx := fun o => unfrozen_of_block0 HX1.out o
  clear hb HF HX0 HX2 HX3 HBW c0 hW
  cases hR : fabRightB rs es ts now with
  | false =>
    obtain rfl := hx1 hR
    have HRH : Hid (fabRightB rs es ts now = false) := hR
    clear hx1 hx2 hR
    go_wp2
    exact bodyPost_ret (v := illV 1) (by simp [results, Tryz.results17, go_sem, cx]) rfl ⟨⟨fun _ => rfl, (fun e => by rw [HRH.out] at e; cases e)⟩, below_set6o HB.out hle _ _ _ _ _ _⟩
  | true =>
    have hx := hx2 hR
    have HRH : Hid (fabRightB rs es ts now = true) := hR
    obtain ⟨Q, hQ⟩ : ∃ Q, grpR (fun r => followR r.cap r.first r.recs r.curs n) rs es ts now g = Q := ⟨_, rfl⟩
    have HQ : Hid (grpR (fun r => followR r.cap r.first r.recs r.curs n) rs es ts now g = Q) := hQ
    rw [hQ] at hx
    clear hx1 hx2 hR hQ
    cases Q with
    | error c =>
      have hx' : x = .returned (illV c) := hx
      subst hx'
      clear hx
      go_wp2
      exact bodyPost_ret (v := illV c) (by simp [results, Tryz.results17, go_sem, cx]) rfl ⟨⟨(fun e => by rw [HRH.out] at e; cases e), fun _ => by rw [HQ.out]; rfl⟩, below_set6o HB.out hle _ _ _ _ _ _⟩
    | ok F =>
      obtain ⟨ra3, rl3, rc3, ea3, ec3, ta3, tl3, tc3, rs3, ts3, rfl, ho3, hs3, h4, h12⟩ := hx
      have HO3 : Hid (OwnFab v w.heap.size ra3 rl3 rc3 ea3 4 ec3 ta3 tl3 tc3 rs3 F.es ts3) := ho3.mono HZ.out
      have HS3 : Hid (FabSame F.rs rs3 F.ts ts3) := hs3
      have H44 : Hid (rl3 ≤ 4 ∧ tl3 ≤ 12) := ⟨h4, h12⟩
      clear ho3 hs3 h4 h12
      go_wp2
      exact bodyPost_ret (v := outV ra3 rl3 rc3 ea3 4 ec3 ta3 tl3 tc3 F.now F.n 0) (by simp [results, Tryz.results17, go_sem, cx]) rfl ⟨⟨(fun e => by rw [HRH.out] at e; cases e), fun _ => by rw [HQ.out]; exact ⟨ra3, rl3, rc3, ea3, ec3, ta3, tl3, tc3, rs3, ts3, rfl, HO3.out.box HX1.out out_ne (grown_set6o v (w.heap.size + 1 + 1 + 1) _ _ _ _ _ _), HS3.out, H44.out.1, H44.out.2⟩⟩, below_set6o HB.out hle _ _ _ _ _ _⟩
end Go.Proofs.YtahccighonddaaaGreatDoor
namespace Go.Proofs.YtahccighonddaaaGreatDoor
open Go.RowKit
set_option linter.unusedSimpArgs false
set_option linter.unusedVariables false
theorem law_Subscribe (ra : Option Addr) (rl rc : Nat) (ea : Option Addr) (el ec : Nat) (ta : Option Addr) (tl tc : Nat) (now n g : Int) (rs : List RD) (es : List Int) (ts : List TD) (w : World) (hi : LFIn w ra rl ea el ta tl rs es ts) (hw : -9223372036854775808 ≤ n ∧ n ≤ 9223372036854775807) (hwg : -9223372036854775808 ≤ g ∧ g ≤ 9223372036854775807) (hp : PreW w) :
    Calls Tryz.prog 4 #[fabVal ra rl rc ea el ec ta tl tc now, .int .i64 n, .int .i64 g] w fun x w' => x = .returned (.bool true) ∧ Below w.heap.size w w' := by
  refine law_Subscribe_of PreW preW_below (fun rs es ts => ftOf (fabRightB rs es ts now) (grpR (fun r => followR r.cap r.first r.recs r.curs n) rs es ts now g)) now n g
    (fun d w hf hn hp => spec_Subscribe d.ra d.rl d.rc d.ea d.el d.ec d.ta d.tl d.tc now n g d.rs d.es d.ts w hf hn.2.1)
    (fun d w hf hn hp => ?_) (fun rs rs' es ts ts' hr ht => ?_) ra rl rc ea el ec ta tl tc rs es ts w hi hp (fun hs => ?_)
  · obtain ⟨hu, aN, aF, aR, aS, aM, aL, hE⟩ := hp
    exact (impl_Subscribe d.ra d.rl d.rc d.ea d.el d.ec d.ta d.tl d.tc now n g d.rs d.es d.ts w hf hu hE hw hwg hn).mono fun x w' h => ⟨ans_face h.1.1 h.1.2, h.2⟩
  · rw [fab_same es now hr ht]
    refine ft_same fun hR => grp_same (fun r r' e => ?_) es now g hr ht
    simp only [RD.strip, RD.mk.injEq, true_and] at e
    obtain ⟨q0, q1, q2, q3⟩ := e
    show followR r'.cap r'.first r'.recs r'.curs n = followR r.cap r.first r.recs r.curs n
    rw [q0, q1, q2, q3]
  · obtain ⟨h1, h2⟩ := lfin_sm hi hs
    refine fts_of fun F hR hF => ?_
    have hz := right_sizes hR
    obtain ⟨f1, f2, f3, f4⟩ := grp_small (A := fun r => followR r.cap r.first r.recs r.curs n) (fun r => follow_good) hF
    refine ⟨by omega, by rw [f2]; omega, by rw [f3]; omega, fun q hq => ?_, by rw [f3]; exact h2⟩
    rcases f4 q hq with hq | ⟨r, hr, hG, rfl⟩
    · exact h1 q hq
    · have hq := h1 r hr
      exact ⟨Nat.le_trans hG.n hq.1, Nat.le_trans hG.m (by omega), fun s hs => hq.2.2 s (hG.s s hs)⟩
end Go.Proofs.YtahccighonddaaaGreatDoor
namespace Go.Proofs.YtahccighonddaaaGreatDoor
open Go.RowKit Go.Maps
attribute [local go_sem ↓] Go.wp_at_zero Go.wp_at_succ
set_option linter.unusedSimpArgs false
set_option linter.unusedVariables false
variable {aN aF aR aS aM aL : Addr}
set_option maxRecDepth 100000 in
set_option maxHeartbeats 2000000 in
theorem impl_Forget (ra : Option Addr) (rl rc : Nat) (ea : Option Addr) (el ec : Nat) (ta : Option Addr) (tl tc : Nat) (now : Int) (n : Int) (g : Int) (rs : List RD) (es : List Int) (ts : List TD) (w : World)
    (hi : FIn w ra rl ea el ta tl rs es ts) (hU : utabs w) (hE : Errs aN aF aR aS aM aL w) (hw_n : -9223372036854775808 ≤ n ∧ n ≤ 9223372036854775807) (hw_g : -9223372036854775808 ≤ g ∧ g ≤ 9223372036854775807) (hn : (ra = none → rl = 0 ∧ rc = 0) ∧ (ea = none → el = 0 ∧ ec = 0) ∧ (ta = none → tl = 0 ∧ tc = 0)) :
    Calls Tryz.prog 24 #[fabVal ra rl rc ea el ec ta tl tc now, .int .i64 n, .int .i64 g] w fun x w' => ((fabRightB rs es ts now = false → x = .returned (illV 1)) ∧ (fabRightB rs es ts now = true → FaceAns w w' (grpR (fun r => leaveR r.cap r.first r.recs r.curs n) rs es ts now g) x)) ∧ Below w.heap.size w w' := by
  have hmf : ∀ (fn : Fn) (first cap : Array Value) (w : World), (Instr.makeFunc fn first cap).run Tryz.prog w = .ok (.func fn first cap) w := fun _ _ _ _ => rfl
  obtain ⟨W, hW⟩ : ∃ W, (((w.alloc (fabO ra rl rc ea el ec ta tl tc now)).alloc (.cells #[.int .i64 n] 2 (0, 0))).alloc (.cells #[.int .i64 g] 2 (0, 0))).alloc (outO none 0 0 none 0 0 none 0 0 0 0 0) = W := ⟨_, rfl⟩
  have HBW : Hid (Below w.heap.size w W) := by
    subst hW
    exact below_tr (below_tr (below_tr (fbelow_new _ _) (fbelow_new _ _)) (fbelow_new _ _)) (fbelow_new _ _)
  have HX0 : Hid (W.heap[w.heap.size]? = some (fabO ra rl rc ea el ec ta tl tc now)) := by
    subst hW
    have h1 := heap_alloc_new w (fabO ra rl rc ea el ec ta tl tc now)
    exact ((fbelow_new _ _).block _ (by simp only [World.size_alloc]; omega)).trans (((fbelow_new _ _).block _ (by simp only [World.size_alloc]; omega)).trans (((fbelow_new _ _).block _ (by simp only [World.size_alloc]; omega)).trans (h1)))
  have HX1 : Hid (W.heap[w.heap.size + 1]? = some (.cells #[.int .i64 n] 2 (0, 0))) := by
    subst hW
    have h1 := heap_alloc_new (w.alloc (fabO ra rl rc ea el ec ta tl tc now)) (.cells #[.int .i64 n] 2 (0, 0))
    simp only [World.size_alloc] at h1
    exact ((fbelow_new _ _).block _ (by simp only [World.size_alloc]; omega)).trans (((fbelow_new _ _).block _ (by simp only [World.size_alloc]; omega)).trans (h1))
  have HX2 : Hid (W.heap[w.heap.size + 1 + 1]? = some (.cells #[.int .i64 g] 2 (0, 0))) := by
    subst hW
    have h1 := heap_alloc_new ((w.alloc (fabO ra rl rc ea el ec ta tl tc now)).alloc (.cells #[.int .i64 n] 2 (0, 0))) (.cells #[.int .i64 g] 2 (0, 0))
    simp only [World.size_alloc] at h1
    exact ((fbelow_new _ _).block _ (by simp only [World.size_alloc]; omega)).trans (h1)
  have HX3 : Hid (W.heap[w.heap.size + 1 + 1 + 1]? = some (outO none 0 0 none 0 0 none 0 0 0 0 0)) := by
    subst hW
    have h1 := heap_alloc_new (((w.alloc (fabO ra rl rc ea el ec ta tl tc now)).alloc (.cells #[.int .i64 n] 2 (0, 0))).alloc (.cells #[.int .i64 g] 2 (0, 0))) (outO none 0 0 none 0 0 none 0 0 0 0 0)
    simp only [World.size_alloc] at h1
    exact h1
  have HF : Hid _ := impl_face (aN := aN) (aF := aF) (aR := aR) (aS := aS) (aM := aM) (aL := aL) 73 #[.pointer (some ⟨w.heap.size + 1 + 1, 0, none⟩), .pointer (some ⟨w.heap.size + 1, 0, none⟩)] ra rl rc ea el ec ta tl tc now rs es ts (grpR (fun r => leaveR r.cap r.first r.recs r.curs n) rs es ts now g) W callForget1 (hi.below HBW.out) (utabs_below hU HBW.out) (hE.below HBW.out) hn
    (fun hR v B M ta' tc' ra' rc' ea' ec' hb hk => impl_Forget1 g n (w.heap.size + 1 + 1) (w.heap.size + 1) v hk (utabs_below (utabs_below hU HBW.out) hb) ((hE.below HBW.out).below hb) hR hw_g hw_n (fb_cell ((hb.block _ (fb_lt HX2.out)).trans HX2.out) 0) (fb_cell ((hb.block _ (fb_lt HX1.out)).trans HX1.out) 0))
  have hle : w.heap.size ≤ w.heap.size + 1 + 1 + 1 := by omega
  have c0 := fun o => fb_cell HX0.out o
  clear hi hU hE hn hw_n hw_g
  go_enter Tryz.func24, Tryz.ntmps24
  go_wp2_with fail
  refine Calls.mono HF.out ?_
  rintro x v ⟨⟨hx1, hx2⟩, hb⟩
  have HB : Hid (Below w.heap.size w v) := below_tr HBW.out hb
  have HX1 : Hid (v.heap[w.heap.size + 1 + 1 + 1]? = some (outO none 0 0 none 0 0 none 0 0 0 0 0)) := (hb.block _ (fb_lt HX3.out)).trans HX3.out
  have HZ : Hid (w.heap.size ≤ W.heap.size) := HBW.out.size
  have cx := fun o => fb_cell HX1.out o
  have fx := fun o => unfrozen_of_block0 HX1.out o
  clear hb HF HX0 HX2 HX3 HBW c0 hW
  cases hR : fabRightB rs es ts now with
  | false =>
    obtain rfl := hx1 hR
    have HRH : Hid (fabRightB rs es ts now = false) := hR
    clear hx1 hx2 hR
    go_wp2
    exact bodyPost_ret (v := illV 1) (by simp [results, Tryz.results24, go_sem, cx]) rfl ⟨⟨fun _ => rfl, (fun e => by rw [HRH.out] at e; cases e)⟩, below_set6o HB.out hle _ _ _ _ _ _⟩
  | true =>
    have hx := hx2 hR
    have HRH : Hid (fabRightB rs es ts now = true) := hR
    obtain ⟨Q, hQ⟩ : ∃ Q, grpR (fun r => leaveR r.cap r.first r.recs r.curs n) rs es ts now g = Q := ⟨_, rfl⟩
    have HQ : Hid (grpR (fun r => leaveR r.cap r.first r.recs r.curs n) rs es ts now g = Q) := hQ
    rw [hQ] at hx
    clear hx1 hx2 hR hQ
    cases Q with
    | error c =>
      have hx' : x = .returned (illV c) := hx
      subst hx'
      clear hx
      go_wp2
      exact bodyPost_ret (v := illV c) (by simp [results, Tryz.results24, go_sem, cx]) rfl ⟨⟨(fun e => by rw [HRH.out] at e; cases e), fun _ => by rw [HQ.out]; rfl⟩, below_set6o HB.out hle _ _ _ _ _ _⟩
    | ok F =>
      obtain ⟨ra3, rl3, rc3, ea3, ec3, ta3, tl3, tc3, rs3, ts3, rfl, ho3, hs3, h4, h12⟩ := hx
      have HO3 : Hid (OwnFab v w.heap.size ra3 rl3 rc3 ea3 4 ec3 ta3 tl3 tc3 rs3 F.es ts3) := ho3.mono HZ.out
      have HS3 : Hid (FabSame F.rs rs3 F.ts ts3) := hs3
      have H44 : Hid (rl3 ≤ 4 ∧ tl3 ≤ 12) := ⟨h4, h12⟩
      clear ho3 hs3 h4 h12
      go_wp2
      exact bodyPost_ret (v := outV ra3 rl3 rc3 ea3 4 ec3 ta3 tl3 tc3 F.now F.n 0) (by simp [results, Tryz.results24, go_sem, cx]) rfl ⟨⟨(fun e => by rw [HRH.out] at e; cases e), fun _ => by rw [HQ.out]; exact ⟨ra3, rl3, rc3, ea3, ec3, ta3, tl3, tc3, rs3, ts3, rfl, HO3.out.box HX1.out out_ne (grown_set6o v (w.heap.size + 1 + 1 + 1) _ _ _ _ _ _), HS3.out, H44.out.1, H44.out.2⟩⟩, below_set6o HB.out hle _ _ _ _ _ _⟩
end Go.Proofs.YtahccighonddaaaGreatDoor
namespace Go.Proofs.YtahccighonddaaaGreatDoor
open Go.RowKit
set_option linter.unusedSimpArgs false
set_option linter.unusedVariables false
theorem law_Forget (ra : Option Addr) (rl rc : Nat) (ea : Option Addr) (el ec : Nat) (ta : Option Addr) (tl tc : Nat) (now n g : Int) (rs : List RD) (es : List Int) (ts : List TD) (w : World) (hi : LFIn w ra rl ea el ta tl rs es ts) (hw : -9223372036854775808 ≤ n ∧ n ≤ 9223372036854775807) (hwg : -9223372036854775808 ≤ g ∧ g ≤ 9223372036854775807) (hp : PreW w) :
    Calls Tryz.prog 6 #[fabVal ra rl rc ea el ec ta tl tc now, .int .i64 n, .int .i64 g] w fun x w' => x = .returned (.bool true) ∧ Below w.heap.size w w' := by
  refine law_Forget_of PreW preW_below (fun rs es ts => ftOf (fabRightB rs es ts now) (grpR (fun r => leaveR r.cap r.first r.recs r.curs n) rs es ts now g)) now n g
    (fun d w hf hn hp => spec_Forget d.ra d.rl d.rc d.ea d.el d.ec d.ta d.tl d.tc now n g d.rs d.es d.ts w hf hn.2.1)
    (fun d w hf hn hp => ?_) (fun rs rs' es ts ts' hr ht => ?_) ra rl rc ea el ec ta tl tc rs es ts w hi hp (fun hs => ?_)
  · obtain ⟨hu, aN, aF, aR, aS, aM, aL, hE⟩ := hp
    exact (impl_Forget d.ra d.rl d.rc d.ea d.el d.ec d.ta d.tl d.tc now n g d.rs d.es d.ts w hf hu hE hw hwg hn).mono fun x w' h => ⟨ans_face h.1.1 h.1.2, h.2⟩
  · rw [fab_same es now hr ht]
    refine ft_same fun hR => grp_same (fun r r' e => ?_) es now g hr ht
    simp only [RD.strip, RD.mk.injEq, true_and] at e
    obtain ⟨q0, q1, q2, q3⟩ := e
    show leaveR r'.cap r'.first r'.recs r'.curs n = leaveR r.cap r.first r.recs r.curs n
    rw [q0, q1, q2, q3]
  · obtain ⟨h1, h2⟩ := lfin_sm hi hs
    refine fts_of fun F hR hF => ?_
    have hz := right_sizes hR
    obtain ⟨f1, f2, f3, f4⟩ := grp_small (A := fun r => leaveR r.cap r.first r.recs r.curs n) (fun r => leave_good) hF
    refine ⟨by omega, by rw [f2]; omega, by rw [f3]; omega, fun q hq => ?_, by rw [f3]; exact h2⟩
    rcases f4 q hq with hq | ⟨r, hr, hG, rfl⟩
    · exact h1 q hq
    · have hq := h1 r hr
      exact ⟨Nat.le_trans hG.n hq.1, Nat.le_trans hG.m (by omega), fun s hs => hq.2.2 s (hG.s s hs)⟩
end Go.Proofs.YtahccighonddaaaGreatDoor
