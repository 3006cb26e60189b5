import Derived.Test.YtahccighonddaaaGreatDoorSpecFollow
import Derived.Test.YtahccighonddaaaGreatDoorTxnImpl2
import Derived.Deep.DrawnRows
import Derived.Test.YtahccighonddaaaGreatDoorNrm
import Derived.Deep.RegionHeld3
import Derived.Laws.AppendOwn
namespace Go.Proofs.YtahccighonddaaaGreatDoor
open Go.RowKit
def txnTo (es : List Int) (n : Nat) (now : Int) (ts : List TD) (k : Nat) : Prop := ∀ j, j < k → ∀ (h : j < ts.length), txnFitB es n now ts[j] = true
theorem txnTo_succ {es : List Int} {n : Nat} {now : Int} {ts : List TD} {k : Nat} {t : TD} (h : txnTo es n now ts k) (hk : ts[k]? = some t) (ht : txnFitB es n now t = true) : txnTo es n now ts (k + 1) := fun j hj hl => by
  by_cases e : j = k
  · subst e
    rw [List.getElem?_eq_getElem hl] at hk
    cases hk; exact ht
  · exact h j (by omega) hl
theorem open_some {ts : List TD} {k : Nat} {p : Int} (h : openAt ts k p = true) : ∃ j t, j < k ∧ ts[j]? = some t ∧ t.s = 1 ∧ t.p = p := by
  unfold openAt at h
  rw [List.any_eq_true] at h
  obtain ⟨t, ht, hp⟩ := h
  obtain ⟨j, hj, e⟩ := List.getElem_of_mem ht
  have hj' : j < k ∧ j < ts.length := by rw [List.length_take] at hj; omega
  simp at hp
  refine ⟨j, t, hj'.1, ?_, hp.1, hp.2⟩
  rw [List.getElem_take] at e
  rw [List.getElem?_eq_getElem hj'.2, e]
theorem open_none {ts : List TD} {k : Nat} {p : Int} (h : openAt ts k p = false) {j : Nat} {t : TD} (hj : j < k) (ht : ts[j]? = some t) (hs : t.s = 1) : t.p ≠ p := by
  unfold openAt at h
  rw [List.any_eq_false] at h
  have hm : t ∈ ts.take k := by
    have : (ts.take k)[j]? = some t := by rw [List.getElem?_take_of_lt hj]; exact ht
    exact List.mem_of_getElem? this
  have := h t hm
  simp [hs] at this
  exact this
theorem openB_yes {ts : List TD} (h : openTo ts ts.length) : openB ts = true := by
  unfold openB
  rw [List.all_eq_true]
  intro j hj
  have hj' : j < ts.length := by simpa using hj
  rw [List.getElem?_eq_getElem hj']
  simp only
  cases hb : (ts[j].s == 1 && openAt ts j ts[j].p) with
  | false => rfl
  | true =>
    simp at hb
    obtain ⟨i, t, hi, ht, hs, hp⟩ := open_some hb.2
    obtain ⟨hi', e⟩ := List.getElem?_eq_some_iff.1 ht
    exact absurd (by rw [e]; exact hp) (h i j hi hj' hi' hj' (by rw [e]; exact hs) hb.1)
theorem openB_no {ts : List TD} {i j : Nat} {t u : TD} (hi : ts[i]? = some t) (hj : ts[j]? = some u) (hij : i < j) (h1 : t.s = 1) (h2 : u.s = 1) (h : t.p = u.p) : openB ts = false := by
  unfold openB
  rw [List.all_eq_false]
  have hj' := (List.getElem?_eq_some_iff.1 hj).1
  refine ⟨j, by simpa using hj', ?_⟩
  rw [hj]
  simp only
  have : openAt ts j u.p = true := by
    cases hb : openAt ts j u.p with
    | true => rfl
    | false => exact absurd h (open_none hb hij hi h1)
  simp [h2, this]
theorem fits_yes {es : List Int} {n : Nat} {now : Int} {ts : List TD} {k : Nat} (hk : ts.length ≤ k) (h : txnTo es n now ts k) (ho : openTo ts k) : txnsFitB es n now ts = true := by
  have e : ts.all (txnFitB es n now) = true := by
    rw [List.all_eq_true]
    intro x hx
    obtain ⟨j, hj, rfl⟩ := List.getElem_of_mem hx
    exact h j (by omega) hj
  have e2 : openB ts = true := openB_yes fun i j hij hj => ho i j hij (by omega)
  simp only [txnsFitB, e, e2, Bool.and_true]
theorem fits_no {es : List Int} {n : Nat} {now : Int} {ts : List TD} {k : Nat} {t : TD} (hk : ts[k]? = some t) (h : txnFitB es n now t = false) : txnsFitB es n now ts = false := by
  have e : ts.all (txnFitB es n now) = false := by
    rw [List.all_eq_false]
    exact ⟨t, List.mem_of_getElem? hk, by simp [h]⟩
  simp [txnsFitB, e]
theorem fits_two {es : List Int} {n : Nat} {now : Int} {ts : List TD} {i j : Nat} {t u : TD} (hi : ts[i]? = some t) (hj : ts[j]? = some u) (hij : i < j) (h1 : t.s = 1) (h2 : u.s = 1) (h : t.p = u.p) : txnsFitB es n now ts = false := by
  simp only [txnsFitB, openB_no hi hj hij h1 h2 h, Bool.and_false]
def openL (ts : List TD) (k : Nat) : List Bool := (List.range 5).map (fun (p : Nat) => openAt ts k (p : Int))
theorem openL_length (ts : List TD) (k : Nat) : (openL ts k).length = 5 := by simp [openL]
theorem openL_at (ts : List TD) (k p : Nat) (h : p < 5) : (openL ts k)[p]? = some (openAt ts k (p : Int)) := by simp [openL, h]
theorem openL_zero (ts : List TD) : openL ts 0 = [false, false, false, false, false] := by simp [openL, openAt]; rfl
theorem openAt_succ {ts : List TD} {k : Nat} {t : TD} (hk : ts[k]? = some t) (p : Int) : openAt ts (k + 1) p = (openAt ts k p || (t.s == 1 && t.p == p)) := by
  obtain ⟨hj, e⟩ := List.getElem?_eq_some_iff.1 hk
  unfold openAt
  rw [List.take_succ_eq_append_getElem hj, e]
  simp
theorem openL_not {ts : List TD} {k : Nat} {t : TD} (hk : ts[k]? = some t) (hs : t.s ≠ 1) : openL ts (k + 1) = openL ts k := by
  unfold openL
  congr 1
  funext p
  rw [openAt_succ hk]
  simp [hs]
theorem openL_set {ts : List TD} {k : Nat} {t : TD} (hk : ts[k]? = some t) (hs : t.s = 1) (h : 1 ≤ t.p ∧ t.p ≤ 4) : (openL ts k).set t.p.toNat true = openL ts (k + 1) := by
  apply List.ext_getElem?
  intro i
  rw [List.getElem?_set]
  by_cases hi : i < 5
  · rw [openL_at _ _ _ hi, openL_at _ _ _ hi, openAt_succ hk, openL_length]
    by_cases e : t.p.toNat = i
    · have : t.p = (i : Int) := by omega
      simp [hi, hs, this]
    · have : ¬ t.p = (i : Int) := by omega
      simp [e, this]
  · rw [List.getElem?_eq_none (by rw [openL_length]; omega), List.getElem?_eq_none (by rw [openL_length]; omega)]
    rw [if_neg (by omega)]
theorem openTo_succ {ts : List TD} {k : Nat} {t : TD} (ho : openTo ts k) (hk : ts[k]? = some t) (h : t.s = 1 → openAt ts k t.p = false) : openTo ts (k + 1) := fun i j hij hj hi hj' h1 h2 => by
  by_cases e : j = k
  · subst e
    rw [List.getElem?_eq_getElem hj'] at hk
    cases hk
    exact open_none (h h2) hij (List.getElem?_eq_getElem hi) h1
  · exact ho i j hij (by omega) hi hj' h1 h2
theorem ringsIn_last {n : Nat} {rs : List Int} {k : Nat} (hk : k + 1 = rs.length) {V : Int} (hV : rs[k]? = some V) (h : ringsB rs = true) : ringsIn n rs = decide (V < (n : Int)) := by
  have hu : upB rs = true := by simp [ringsB] at h; exact h.2
  obtain ⟨hk', e⟩ := List.getElem?_eq_some_iff.1 hV
  by_cases hlt : V < (n : Int)
  · rw [decide_eq_true hlt]
    unfold ringsIn
    rw [List.all_eq_true]
    intro x hx
    obtain ⟨j, hj, rfl⟩ := List.getElem_of_mem hx
    by_cases ej : j = k
    · subst ej; rw [e]; exact decide_eq_true hlt
    · have := up_at hu (i := j) (j := k) (by omega) hk'
      exact decide_eq_true (by omega)
  · rw [decide_eq_false hlt]
    unfold ringsIn
    rw [List.all_eq_false]
    exact ⟨V, List.mem_of_getElem? hV, by simp; omega⟩
theorem txnRight_bnd {p e s u : Int} {rs ls : List Int} (h : txnRightB p e s u rs ls = true) : (1 ≤ p ∧ p ≤ 4) ∧ (1 ≤ e ∧ e ≤ 1000000) ∧ (1 ≤ s ∧ s ≤ 3) ∧ (0 ≤ u ∧ u ≤ 1000000) ∧ ringsB rs = true ∧ ringsB ls = true := by
  simp [txnRightB] at h
  obtain ⟨⟨⟨⟨⟨⟨⟨h1, h2⟩, h3⟩, h4⟩, h5⟩, h6⟩, _⟩, _⟩ := h
  exact ⟨h1, h2, h3, h4, h5, h6⟩
theorem epoch_at {es : List Int} {p : Int} {V : Int} {k : Nat} (hk : (k : Int) = p - 1) (hV : es[k]? = some V) : epochAt es p = V := by
  have : (p - 1).toNat = k := by omega
  unfold epochAt
  rw [this, List.getD_eq_getElem?_getD, hV]; rfl
theorem numFit_at {ts : List TD} {k n : Int} {j : Nat} {t : TD} (hj : (j : Int) = n - 1) (h : ts[j]? = some t) : numFitB ts k n = hasB t.rs k := by
  have e : (n - 1).toNat = j := by omega
  have h1 : 1 ≤ n := by omega
  simp [numFitB, e, h, h1]
theorem numFit_no {ts : List TD} {k n : Int} (h : ¬ (1 ≤ n ∧ n ≤ (ts.length : Int))) : numFitB ts k n = false := by
  unfold numFitB
  by_cases h1 : 1 ≤ n
  · have : ts[(n - 1).toNat]? = none := List.getElem?_eq_none (by omega)
    rw [this]; simp
  · simp [h1]
def recTo (ts : List TD) (k : Int) (recs : List ByteArray) (j : Nat) : Prop := ∀ i, i < j → ∀ (h : i < recs.length), recFitB ts k recs[i] = true
theorem recTo_all {ts : List TD} {k : Int} {recs : List ByteArray} {j : Nat} (hj : recs.length ≤ j) (h : recTo ts k recs j) : recs.all (recFitB ts k) = true := by
  rw [List.all_eq_true]
  intro x hx
  obtain ⟨i, hi, rfl⟩ := List.getElem_of_mem hx
  exact h i (by omega) hi
theorem recTo_no {ts : List TD} {k : Int} {recs : List ByteArray} {j : Nat} (hj : j < recs.length) (h : recFitB ts k recs[j] = false) : recs.all (recFitB ts k) = false := by
  rw [List.all_eq_false]
  exact ⟨recs[j], List.getElem_mem hj, by simp [h]⟩
theorem recTo_succ {ts : List TD} {k : Int} {recs : List ByteArray} {j : Nat} (h : recTo ts k recs j) (hj : j < recs.length) (hr : recFitB ts k recs[j] = true) : recTo ts k recs (j + 1) := fun i hi hl => by
  by_cases e : i = j
  · subst e; exact hr
  · exact h i (by omega) hl
def ringTo (ts : List TD) (rs : List RD) (j : Nat) : Prop := ∀ i, i < j → ∀ (h : i < rs.length), ringFitB ts (i : Int) rs[i] = true
theorem ringTo_yes {ts : List TD} {rs : List RD} {j : Nat} (hj : rs.length ≤ j) (h : ringTo ts rs j) : ringsFitB ts rs = true := decide_eq_true fun k hk _ => h k (by omega) hk
theorem ringTo_no {ts : List TD} {rs : List RD} {j : Nat} {r : RD} (hr : rs[j]? = some r) (h : ringFitB ts (j : Int) r = false) : ringsFitB ts rs = false := decide_eq_false fun hh => by
  obtain ⟨hj, e⟩ := List.getElem?_eq_some_iff.1 hr
  have := hh j hj hj
  rw [e, h] at this
  cases this
theorem ringTo_succ {ts : List TD} {rs : List RD} {j : Nat} {r : RD} (h : ringTo ts rs j) (hr : rs[j]? = some r) (hf : ringFitB ts (j : Int) r = true) : ringTo ts rs (j + 1) := fun i hi hl => by
  by_cases e : i = j
  · subst e
    rw [List.getElem?_eq_getElem hl] at hr
    cases hr; exact hf
  · exact h i (by omega) hl
def timeTo (es : List Int) (k : Nat) : Prop := ∀ j, j < k → ∀ (h : j < es.length), timeB es[j] = true
def openOf (ts : List TD) (p : Int) : Nat := match ts.findIdx? (fun t => t.p == p && t.s == 1) with | some i => i + 1 | none => 0
end Go.Proofs.YtahccighonddaaaGreatDoor
namespace Go.Proofs.YtahccighonddaaaGreatDoor
open Go.RowKit
attribute [local go_sem ↓] Go.wp_at_zero Go.wp_at_succ
abbrev workC (ta : Option Addr) (tl tc M : Nat) (ra : Option Addr) (rl rc : Nat) (ea : Option Addr) (el ec : Nat) (now began puts : Int) : Array Value :=
  #[.slice ta tl tc, .map (some M), .slice ra rl rc, .slice ea el ec, .int .i64 now, .int .i64 began, .int .i64 puts]
abbrev workO (ta : Option Addr) (tl tc M : Nat) (ra : Option Addr) (rl rc : Nat) (ea : Option Addr) (el ec : Nat) (now began puts : Int) : Obj :=
  .cells (workC ta tl tc M ra rl rc ea el ec now began puts) 135 (0, 0)
variable {B : Nat} {ta : Option Addr} {tl tc M : Nat} {ra : Option Addr} {rl rc : Nat} {ea : Option Addr} {el ec : Nat} {now began puts : Int}
theorem impl_sizes (ra : Option Addr) (rl rc : Nat) (ea : Option Addr) (el ec : Nat) (ta : Option Addr) (tl tc : Nat) (now : Int) (w : World) (hr : rl ≤ 1048576) (_he : el ≤ 1048576) (ht : tl ≤ 1048576) :
    Calls Tryz.prog 131 #[fabVal ra rl rc ea el ec ta tl tc now] w fun x w' => x = .returned (.bool (decide (1 ≤ rl ∧ rl ≤ 4 ∧ el = 4 ∧ tl ≤ 12))) ∧ Below w.heap.size w w' := by
  by_cases h1 : 1 ≤ rl
  case neg =>
    have h1' : decide ((1 : Int) ≤ (rl : Int)) = false := decide_eq_false (by omega)
    go_enter Tryz.func131, Tryz.ntmps131
    go_wp2
    go_ret
    exact ⟨ret_bool (decide_eq_false (by omega)).symm, fbelow_new _ _⟩
  have h1' : decide ((1 : Int) ≤ (rl : Int)) = true := decide_eq_true (by omega)
  by_cases h2 : rl ≤ 4
  case neg =>
    have h2' : decide ((rl : Int) ≤ (4 : Int)) = false := decide_eq_false (by omega)
    go_enter Tryz.func131, Tryz.ntmps131
    go_wp2
    go_ret
    exact ⟨ret_bool (decide_eq_false (by omega)).symm, fbelow_new _ _⟩
  have h2' : decide ((rl : Int) ≤ (4 : Int)) = true := decide_eq_true (by omega)
  by_cases h3 : el = 4
  case neg =>
    have h3' : ((el : Int) == 4) = false := by rw [beq_eq_false_iff_ne]; omega
    go_enter Tryz.func131, Tryz.ntmps131
    go_wp2
    go_ret
    exact ⟨ret_bool (decide_eq_false (by omega)).symm, fbelow_new _ _⟩
  have h3' : ((el : Int) == 4) = true := by rw [beq_iff_eq]; omega
  by_cases h4 : tl ≤ 12
  case neg =>
    have h4' : decide ((tl : Int) ≤ (12 : Int)) = false := decide_eq_false (by omega)
    go_enter Tryz.func131, Tryz.ntmps131
    go_wp2
    go_ret
    exact ⟨ret_bool (decide_eq_false (by omega)).symm, fbelow_new _ _⟩
  have h4' : decide ((tl : Int) ≤ (12 : Int)) = true := decide_eq_true (by omega)
  go_enter Tryz.func131, Tryz.ntmps131
  go_wp2
  go_ret
  exact ⟨ret_bool (decide_eq_true (by omega)).symm, fbelow_new _ _⟩
theorem impl_epochOf (es : List Int) (P : Nat) (V : Int) (w : World) (hb : w.heap[B]? = some (workO ta tl tc M ra rl rc ea 4 ec now began puts)) (he : Nums w ea 4 es) (hP : P < 4) (hV : es[P]? = some V) :
    Calls Tryz.prog 143 #[.pointer (some ⟨B, 0, none⟩), .int .i64 ((P : Int) + 1)] w fun x w' => x = .returned (.int .i64 V) ∧ w' = w := by
  have cf := fun o => fb_cell hb o
  obtain ⟨b2, off2, V', rfl, hV', cV⟩ := nums_at he (Below.refl _ _) (k := P) hP
  obtain rfl : V = V' := Option.some.inj (hV.symm.trans hV')
  have hW1 : IntKind.i64.wrap (P : Int) = (P : Int) := twrap_in _ (by omega) (by omega)
  have hPI : (P : Int) < 4 := by omega
  clear hb he hV hV'
  go_enter Tryz.func143, Tryz.ntmps143
  go_wp2
  go_ret
  exact ⟨rfl, rfl⟩
theorem impl_hasRing (n : Int) (w : World) (hb : w.heap[B]? = some (workO ta tl tc M ra rl rc ea el ec now began puts)) (_hrl : rl ≤ 1048576) :
    Calls Tryz.prog 92 #[.pointer (some ⟨B, 0, none⟩), .int .i64 n] w fun x w' => x = .returned (.bool (decide (0 ≤ n ∧ n < (rl : Int)))) ∧ w' = w := by
  have cf := fun o => fb_cell hb o
  clear hb
  by_cases h1 : 0 ≤ n
  · have h1' : decide (0 ≤ n) = true := decide_eq_true h1
    by_cases h2 : n < (rl : Int)
    · have h2' : decide (n < (rl : Int)) = true := decide_eq_true h2
      go_enter Tryz.func92, Tryz.ntmps92
      go_wp2
      go_ret
      exact ⟨ret_bool (by first | rfl | exact (decide_eq_true ⟨h1, h2⟩).symm), rfl⟩
    · have h2' : decide (n < (rl : Int)) = false := decide_eq_false h2
      go_enter Tryz.func92, Tryz.ntmps92
      go_wp2
      go_ret
      exact ⟨ret_bool (by first | rfl | exact (decide_eq_false (by omega)).symm), rfl⟩
  · have h1' : decide (0 ≤ n) = false := decide_eq_false h1
    go_enter Tryz.func92, Tryz.ntmps92
    go_wp2
    go_ret
    exact ⟨ret_bool (by first | rfl | exact (decide_eq_false (by omega)).symm), rfl⟩
theorem impl_hasNumber (n : Int) (w : World) (hb : w.heap[B]? = some (workO ta tl tc M ra rl rc ea el ec now began puts)) (_htl : tl ≤ 1048576) :
    Calls Tryz.prog 219 #[.pointer (some ⟨B, 0, none⟩), .int .i64 n] w fun x w' => x = .returned (.bool (decide (1 ≤ n ∧ n ≤ (tl : Int)))) ∧ w' = w := by
  have cf := fun o => fb_cell hb o
  clear hb
  by_cases h1 : 1 ≤ n
  · have h1' : decide (1 ≤ n) = true := decide_eq_true h1
    by_cases h2 : n ≤ (tl : Int)
    · have h2' : decide (n ≤ (tl : Int)) = true := decide_eq_true h2
      go_enter Tryz.func219, Tryz.ntmps219
      go_wp2
      go_ret
      exact ⟨ret_bool (by first | rfl | exact (decide_eq_true ⟨h1, h2⟩).symm), rfl⟩
    · have h2' : decide (n ≤ (tl : Int)) = false := decide_eq_false h2
      go_enter Tryz.func219, Tryz.ntmps219
      go_wp2
      go_ret
      exact ⟨ret_bool (by first | rfl | exact (decide_eq_false (by omega)).symm), rfl⟩
  · have h1' : decide (1 ≤ n) = false := decide_eq_false h1
    go_enter Tryz.func219, Tryz.ntmps219
    go_wp2
    go_ret
    exact ⟨ret_bool (by first | rfl | exact (decide_eq_false (by omega)).symm), rfl⟩
theorem impl_leftOn (t : TD) (n : Int) (w : World) (h : TFit w t) :
    Calls Tryz.prog 199 #[t.v, .int .i64 n] w fun x w' => x = .returned (.bool (findNB n t.ls)) ∧ Below w.heap.size w w' := by
  have HL : Hid (∀ o, Nums (w.alloc o) t.la t.ll t.ls) := fun o => nums_below h.l.nums (fbelow_new _ _)
  have hle := h.lle
  clear h
  go_enter Tryz.func199, Tryz.ntmps199
  go_wp2_with fail
  refine (impl_findN t.la t.ll t.lc n t.ls _ (HL.out _) hle).mono ?_
  rintro x w1 ⟨rfl, hw1⟩
  rw [hw1]
  clear hw1 w1
  go_wp2
  go_ret
  exact ⟨rfl, fbelow_new _ _⟩
structure FA (w v : World) (B : Nat) (o : Obj) (ra : Option Addr) (rl : Nat) (ea : Option Addr) (el : Nat) (ta : Option Addr) (tl : Nat) (rs : List RD) (es : List Int) (ts : List TD) : Prop where
  box : v.heap[B]? = some o
  fin : FIn v ra rl ea el ta tl rs es ts
  bel : Below w.heap.size w v
theorem FA.under {w u v : World} {B : Nat} {o : Obj} {ra : Option Addr} {rl : Nat} {ea : Option Addr} {el : Nat} {ta : Option Addr} {tl : Nat} {rs : List RD} {es : List Int} {ts : List TD} (h : FA w u B o ra rl ea el ta tl rs es ts) (hb : Below u.heap.size u v) : FA w v B o ra rl ea el ta tl rs es ts :=
  ⟨(hb.block _ (fb_lt h.box)).trans h.box, h.fin.below hb, below_tr h.bel hb⟩
set_option maxHeartbeats 2000000 in
theorem impl_hasRings (a : Option Addr) (n c : Nat) (l : List Int) (w : World) (hb : w.heap[B]? = some (workO ta tl tc M ra rl rc ea el ec now began puts)) (hl : Nums w a n l) (hn : n ≤ 1048576) (hrl : rl ≤ 1048576) :
    Calls Tryz.prog 187 #[.pointer (some ⟨B, 0, none⟩), .slice a n c] w fun x w' => x = .returned (.bool (l.all fun n => decide (0 ≤ n ∧ n < (rl : Int)))) ∧ w' = w := by
  have HB : Hid (w.heap[B]? = some (workO ta tl tc M ra rl rc ea el ec now began puts)) := hb
  have HC : Hid (Nums w a n l) := hl
  have HL : Hid (l.length = n) := hl.1
  clear hb hl
  go_enter Tryz.func187, Tryz.ntmps187
  go_wp2
  go_loop [9] (fun i => ∃ k : Nat, k ≤ n ∧ i = .int .i64 k ∧ Hid (fitTo (fun n => decide (0 ≤ n ∧ n < (rl : Int))) l k)) (fun i => n - (intOf i).toNat)
  case atStart => exact ⟨0, by omega, rfl, fun j hj => by omega⟩
  case round =>
    obtain ⟨k, hk, rfl, hr⟩ := hrel
    by_cases hlt : k < n
    · obtain ⟨b, off, rfl, hj, g1⟩ := nums_get HC.out (Below.refl _ _) (k := k) hlt
      have hN : decide (0 ≤ l[k] ∧ l[k] < (rl : Int)) = false → Hid ((l.all fun n => decide (0 ≤ n ∧ n < (rl : Int))) = false) := fun h => fit_no (f := fun n => decide (0 ≤ n ∧ n < (rl : Int))) hj h
      have hY : decide (0 ≤ l[k] ∧ l[k] < (rl : Int)) = true → Hid (fitTo (fun n => decide (0 ≤ n ∧ n < (rl : Int))) l (k + 1)) := fun h i hi h1 => by
        by_cases hik : i = k
        · subst hik; exact h
        · exact hr.out i (by omega) h1
      obtain ⟨V, hV⟩ : ∃ V, l[k] = V := ⟨_, rfl⟩
      rw [hV] at g1 hN hY
      obtain ⟨R, hR⟩ : ∃ R, decide (0 ≤ V ∧ V < (rl : Int)) = R := ⟨_, rfl⟩
      have HQ : Hid _ := fun w hb => impl_hasRing (B := B) (ta := ta) (tl := tl) (tc := tc) (M := M) (ra := ra) (rl := rl) (rc := rc) (ea := ea) (el := el) (ec := ec) (now := now) (began := began) (puts := puts) V w hb hrl
      rw [hR] at HQ hN hY
      clear hV hR hr hj
      go_wp2_with fail
      refine (HQ.out _ HB.out).mono ?_
      rintro x w1 ⟨rfl, hw1⟩
      rw [hw1]
      clear hw1 w1
      cases R with
      | true =>
        have hE := hY rfl
        clear hN hY
        go_wp2
        exact ⟨⟨k + 1, by omega, by go_num, hE.out⟩, by simp [intOf]; omega⟩
      | false =>
        have hE := hN rfl
        clear hN hY
        go_wp2
        go_ret
        exact ⟨ret_bool hE.out.symm, rfl⟩
    · have hE : Hid ((l.all fun n => decide (0 ≤ n ∧ n < (rl : Int))) = true) := fit_yes (f := fun n => decide (0 ≤ n ∧ n < (rl : Int))) (by rw [HL.out]; omega) hr.out
      clear hr
      go_wp2
      go_ret
      exact ⟨ret_bool (by have h := hE.out; simp only [Bool.decide_and] at h; exact h.symm), rfl⟩
end Go.Proofs.YtahccighonddaaaGreatDoor
namespace Go.Proofs.YtahccighonddaaaGreatDoor
open Go.RowKit
attribute [local go_sem ↓] Go.wp_at_zero Go.wp_at_succ
variable {B : Nat} {ta : Option Addr} {tl tc M : Nat} {ra : Option Addr} {rl rc : Nat} {ea : Option Addr} {el ec : Nat} {now began puts : Int}
theorem itime_no {es : List Int} {k : Nat} (hk : k < es.length) (h : timeB es[k] = false) : es.all timeB = false := by
  rw [List.all_eq_false]
  exact ⟨es[k], List.getElem_mem hk, by simp [h]⟩
theorem itime_yes {es : List Int} {k : Nat} (hk : es.length ≤ k) (h : timeTo es k) : es.all timeB = true := by
  rw [List.all_eq_true]
  intro x hx
  obtain ⟨j, hj, rfl⟩ := List.getElem_of_mem hx
  exact h j (by omega) hj
theorem itimeTo_succ {es : List Int} {k : Nat} (hr : timeTo es k) (hk : k < es.length) (h : timeB es[k] = true) : timeTo es (k + 1) := fun i hi h1 => by
  by_cases hik : i = k
  · subst hik; exact h
  · exact hr i (by omega) h1
set_option maxHeartbeats 2000000 in
theorem impl_numbersRight (es : List Int) (w : World) (hb : w.heap[B]? = some (workO ta tl tc M ra rl rc ea el ec now began puts)) (he : Nums w ea el es) (hel : el ≤ 1048576) :
    Calls Tryz.prog 133 #[.pointer (some ⟨B, 0, none⟩)] w fun x w' => x = .returned (.bool (es.all timeB && timeB now)) ∧ w' = w := by
  have cf := fun o => fb_cell hb o
  have HE : Hid (Nums w ea el es) := he
  have HL : Hid (es.length = el) := he.1
  clear hb he
  go_enter Tryz.func133, Tryz.ntmps133
  go_wp2
  go_loop [10] (fun i => ∃ k : Nat, k ≤ el ∧ i = .int .i64 k ∧ Hid (timeTo es k)) (fun i => el - (intOf i).toNat)
  case atStart => exact ⟨0, by omega, rfl, fun j hj => by omega⟩
  case round =>
    obtain ⟨k, hk, rfl, hto⟩ := hrel
    by_cases hlt : k < el
    · obtain ⟨b, off, hea, hkl, g0⟩ := nums_get HE.out (Below.refl _ _) (k := k) hlt
      have hN : timeB es[k] = false → Hid ((es.all timeB && timeB now) = false) := fun h => by show _ = _; rw [itime_no hkl h]; rfl
      have hY : timeB es[k] = true → Hid (timeTo es (k + 1)) := fun h => itimeTo_succ hto.out hkl h
      obtain ⟨V, hV⟩ : ∃ V, es[k] = V := ⟨_, rfl⟩
      rw [hV] at g0 hN hY
      clear hV hkl hto
      subst hea
      go_wp2_with fail
      refine (timpl_time V _).mono ?_
      rintro e w1 ⟨rfl, hw1⟩
      rw [hw1]
      clear hw1 w1
      by_cases h5 : 0 ≤ V ∧ V ≤ 1000000
      · rw [decide_eq_true h5]
        have hE := hY (decide_eq_true h5)
        clear h5 hY hN g0
        go_wp2
        exact ⟨⟨k + 1, by omega, by go_num, hE.out⟩, by simp [intOf]; omega⟩
      · rw [decide_eq_false h5]
        have hE := hN (decide_eq_false h5)
        clear h5 hY hN g0
        go_wp2
        go_ret
        exact ⟨ret_bool hE.out.symm, rfl⟩
    · have hE : Hid ((es.all timeB && timeB now) = timeB now) := show _ = _ by rw [itime_yes (by rw [HL.out]; omega) hto.out]; rfl
      clear hto
      go_wp2_with fail
      refine (timpl_time now _).mono ?_
      rintro e w1 ⟨rfl, hw1⟩
      rw [hw1]
      clear hw1 w1
      obtain ⟨T, hT⟩ : ∃ T, decide (0 ≤ now ∧ now ≤ 1000000) = T := ⟨_, rfl⟩
      have hE2 : Hid ((es.all timeB && timeB now) = T) := show _ = _ by rw [hE.out, ← hT]; rfl
      rw [hT]
      clear hE hT
      go_wp2
      go_ret
      exact ⟨ret_bool hE2.out.symm, rfl⟩
set_option maxHeartbeats 4000000 in
theorem impl_owed (k : Int) (ts : List TD) (w : World) (hb : w.heap[B]? = some (workO ta tl tc M ra rl rc ea el ec now began puts)) (hT : Txs w ta tl ts) (htl : tl ≤ 1048576) (hU : ∀ t ∈ ts, upB t.rs = true ∧ upB t.ls = true) :
    Calls Tryz.prog 147 #[.pointer (some ⟨B, 0, none⟩), .int .i64 k] w fun x w' => x = .returned (.int .i64 (owedN ts k : Nat)) ∧ Below w.heap.size w w' := by
  have cf := fun o => fb_cell hb o
  have HT : Hid (Txs w ta tl ts) := hT
  have HL : Hid (ts.length = tl) := hT.1
  have HU : Hid (∀ t ∈ ts, upB t.rs = true ∧ upB t.ls = true) := hU
  clear hb hT hU
  go_enter Tryz.func147, Tryz.ntmps147
  go_wp2
  clear cf
  go_loopw [5, 13] (fun n i wr => ∃ j x : Nat, j ≤ tl ∧ x ≤ j ∧ i = .int .i64 j ∧ n = .int .i64 x ∧ Hid (x = owedN (ts.take j) k) ∧ Hid (Below w.heap.size w wr)) (fun _ i _ => tl - (intOf i).toNat)
  case atStart => exact ⟨0, 0, by omega, by omega, rfl, rfl, show _ = _ by simp [owedN], Below.refl _ _⟩
  case round =>
    obtain ⟨j, x, hj, hx, rfl, rfl, hn, hw⟩ := hrel
    by_cases hlt : j < tl
    · obtain ⟨b, off, t, rfl, e1, g0, g1, g2, g3, g4, g5, hf⟩ := txsG_at keeps_tfit HT.out hw.out hlt
      have HN : Hid (owedN (ts.take (j + 1)) k = x + (if owesB k t then 1 else 0)) := show _ = _ by rw [owedN_succ k e1, ← hn.out]
      obtain ⟨hu1, hu2⟩ := HU.out t (List.mem_of_getElem? e1)
      have HH1 : Hid (findNB k t.ls = hasB t.ls k) := find_has hu2 k
      have HH2 : Hid (touchB t.rs k = hasB t.rs k) := find_has hu1 k
      have HF2 : Hid (TFit (wr.alloc t.obj) t) := hf.out.below (fbelow_new _ _)
      have HW2 : Hid (Below w.heap.size w (wr.alloc t.obj)) := below_tr hw.out (fbelow_new _ _)
      have HB2 : Hid ((wr.alloc t.obj).heap[wr.heap.size]? = some t.obj) := heap_alloc_new _ _
      have hrl' := hf.out.rle
      clear e1 hn hu1 hu2 hf hw
      go_wp2_with fail
      refine (impl_leftOn t k _ HF2.out).mono ?_
      rintro e v ⟨rfl, hbv⟩
      rw [HH1.out]
      have HW3 : Hid (Below w.heap.size w v) := below_tr HW2.out hbv
      have HF3 : Hid (TFit v t) := HF2.out.below hbv
      have HB3 : Hid (v.heap[wr.heap.size]? = some t.obj) := (hbv.block _ (fb_lt HB2.out)).trans HB2.out
      clear hbv HW2 HF2 HB2 HH1
      have ct := fun o => fb_cell HB3.out o
      cases h1 : hasB t.ls k with
      | true =>
        have hE : Hid (x + 1 = owedN (ts.take (j + 1)) k) := show _ = _ by rw [HN.out]; simp [owesB, h1]
        clear HN h1
        go_wp2
        exact ⟨⟨j + 1, x + 1, by omega, by omega, by go_num, by go_num, hE.out, HW3.out⟩, by simp [intOf]; omega⟩
      | false =>
        by_cases h2 : t.s = 1
        · have h2' : (t.s == 1) = true := by rw [beq_iff_eq]; exact h2
          have H2 : Hid (t.s = 1) := h2
          clear h2
          go_wp2_with fail
          refine (impl_touchedBy v).mono ?_
          rintro e v4 ⟨rfl, rfl⟩
          have HW4 : Hid (Below w.heap.size w (v.alloc t.obj)) := below_tr HW3.out (fbelow_new _ _)
          have HB4 : Hid ((v.alloc t.obj).heap[v.heap.size]? = some t.obj) := heap_alloc_new _ _
          have HF4 : Hid (TFit (v.alloc t.obj) t) := HF3.out.below (fbelow_new _ _)
          go_wp2_with fail
          refine (impl_touched v.heap.size k t.rs (v.alloc t.obj) HB4.out HF4.out.r.nums hrl').mono ?_
          rintro e v5 ⟨rfl, hv5⟩
          rw [hv5, HH2.out]
          clear hv5 v5 HH2
          cases h3 : hasB t.rs k with
          | true =>
            have hE : Hid (x + 1 = owedN (ts.take (j + 1)) k) := show _ = _ by rw [HN.out]; simp [owesB, H2.out, h3]
            clear HN h3 h1 ct
            go_wp2
            exact ⟨⟨j + 1, x + 1, by omega, by omega, by go_num, by go_num, hE.out, HW4.out⟩, by simp [intOf]; omega⟩
          | false =>
            have hE : Hid (x = owedN (ts.take (j + 1)) k) := show _ = _ by rw [HN.out]; simp [owesB, h1, h3]
            clear HN h3 h1 ct
            go_wp2
            exact ⟨⟨j + 1, x, by omega, by omega, by go_num, by go_num, hE.out, HW4.out⟩, by simp [intOf]; omega⟩
        · have h2' : (t.s == 1) = false := by rw [beq_eq_false_iff_ne]; exact h2
          have hE : Hid (x = owedN (ts.take (j + 1)) k) := show _ = _ by rw [HN.out]; simp [owesB, h1, h2]
          clear HN h1 h2
          go_wp2
          exact ⟨⟨j + 1, x, by omega, by omega, by go_num, by go_num, hE.out, HW3.out⟩, by simp [intOf]; omega⟩
    · have hE : Hid (x = owedN ts k) := by
        have h := hn.out
        rw [List.take_of_length_le (by rw [HL.out]; omega)] at h
        exact h
      go_wp2
      go_ret
      exact ⟨ret_int (by rw [hE.out]), hw.out⟩
end Go.Proofs.YtahccighonddaaaGreatDoor
namespace Go.Proofs.YtahccighonddaaaGreatDoor
open Go.RowKit
attribute [local go_sem ↓] Go.wp_at_zero Go.wp_at_succ
variable {B : Nat} {ta : Option Addr} {tl tc M : Nat} {ra : Option Addr} {rl rc : Nat} {ea : Option Addr} {el ec : Nat} {now began puts : Int}
set_option maxHeartbeats 2000000 in
theorem impl_fits (k : Nat) (r : RD) (N : Nat) (rs : List RD) (w : World) (hb : w.heap[B]? = some (workO ta tl tc M ra rl rc ea el ec now began puts)) (hR : Rngs w ra rl rs) (hk : rs[k]? = some r) (_hrl : rl ≤ 1048576) (hN : N ≤ 1048576) (h1 : 0 ≤ r.first ∧ r.first ≤ 1000000) (h2 : -100 ≤ r.cap ∧ r.cap ≤ 100) :
    Calls Tryz.prog 94 #[.pointer (some ⟨B, 0, none⟩), .int .i64 k, .int .i64 N] w fun x w' => x = .returned (.bool (decide ((N : Int) ≤ r.cap - (r.rl : Int)) && decide (r.first + (r.rl : Int) + (N : Int) ≤ 1000000))) ∧ Below w.heap.size w w' := by
  have cf := fun o => fb_cell hb o
  have hkl : k < rl := by rw [← hR.1]; exact (List.getElem?_eq_some_iff.1 hk).1
  obtain ⟨b, off, r', rfl, e1, g0, g1, g2, g3, hf⟩ := rngsG_at keeps_fit hR (Below.refl _ _) hkl
  obtain rfl : r = r' := Option.some.inj (hk.symm.trans e1)
  have hle : r.rl ≤ 1048576 := hf.out.rle
  clear hb hR hk e1 hf
  obtain ⟨cap, first, ra', rl', rc', ca', cl', cc', recs, curs⟩ := r
  simp only at g0 g1 g2 g3 h1 h2 hle
  have hki : (k : Int) < (rl : Int) := by omega
  go_enter Tryz.func94, Tryz.ntmps94
  go_wp2_with fail
  refine (impl_atWork (cap := cap) (first := first) (ra := ra') (rl := rl') (rc := rc') (ca := ca') (cl := cl') (cc := cc') w).mono ?_
  rintro e v ⟨rfl, hbv, hwk, hsz⟩
  have HB1 : Hid (Below w.heap.size w v) := hbv
  have HK1 : Hid (Work v (w.heap.size + 1) cap first ra' rl' rc' ca' cl' cc' 0 0 0) := hwk
  clear hbv hwk hsz cf g0 g1 g2 g3
  go_wp2_with fail
  refine (impl_room (w.heap.size + 1) 0 0 0 v HK1.out h2 hle).mono ?_
  rintro e v2 ⟨rfl, hb2⟩
  have HB2 : Hid (Below w.heap.size w v2) := below_tr HB1.out hb2
  have HK2 : Hid (Work v2 (w.heap.size + 1) cap first ra' rl' rc' ca' cl' cc' 0 0 0) := HK1.out.below hb2
  clear hb2 HB1 HK1
  by_cases hA : (N : Int) ≤ cap - (rl' : Int)
  · have hA' : decide ((N : Int) ≤ cap - (rl' : Int)) = true := decide_eq_true hA
    go_wp2_with fail
    refine (impl_end (w.heap.size + 1) 0 0 0 v2 HK2.out h1 hle).mono ?_
    rintro e v3 ⟨rfl, hb3⟩
    have HB3 : Hid (Below w.heap.size w v3) := below_tr HB2.out hb3
    clear hb3
    have hwr : IntKind.i64.wrap (first + (rl' : Int) + (N : Int)) = first + (rl' : Int) + (N : Int) := twrap_in _ (by omega) (by omega)
    obtain ⟨T, hT⟩ : ∃ T, decide (first + (rl' : Int) + (N : Int) ≤ 1000000) = T := ⟨_, rfl⟩
    have HE : Hid ((decide ((N : Int) ≤ cap - (rl' : Int)) && decide (first + (rl' : Int) + (N : Int) ≤ 1000000)) = T) := show _ = _ by rw [hA', hT]; rfl
    go_wp2
    go_ret
    exact ⟨ret_bool (by first | rfl | exact hT | exact HE.out.symm | (rw [← hT])), HB3.out⟩
  · have hA' : decide ((N : Int) ≤ cap - (rl' : Int)) = false := decide_eq_false hA
    go_wp2
    go_ret
    exact ⟨ret_bool (by first | rfl | (rw [hA']; rfl)), HB2.out⟩
end Go.Proofs.YtahccighonddaaaGreatDoor
namespace Go.Proofs.YtahccighonddaaaGreatDoor
open Go.RowKit
attribute [local go_sem ↓] Go.wp_at_zero Go.wp_at_succ
set_option maxRecDepth 100000 in
set_option maxHeartbeats 4000000 in
theorem spec_lowed (ra : Option Addr) (rl rc : Nat) (ea : Option Addr) (el ec : Nat) (ta : Option Addr) (tl tc : Nat) (now : Int) (k : Int) (ts : List TD) (w : World) (hT : Txs w ta tl ts) (htl : tl ≤ 1048576) :
    Calls Tryz.prog 32 #[fabVal ra rl rc ea el ec ta tl tc now, .int .i64 k] w fun e w' => e = .returned (.int .i64 (owedN ts k : Nat)) ∧ Below w.heap.size w w' := by
  have HT : Hid (Txs w ta tl ts) := hT
  have HL : Hid (ts.length = tl) := hT.1
  clear hT
  have HF : Hid (FB w (w.alloc (fabO ra rl rc ea el ec ta tl tc now)) (fabO ra rl rc ea el ec ta tl tc now)) := fb_new _ _ _
  go_enter Tryz.func32, Tryz.ntmps32
  go_wp2
  go_loopw [5, 6] (fun n i wr => ∃ j x : Nat, j ≤ tl ∧ x ≤ j ∧ i = .int .i64 j ∧ n = .int .i64 x ∧ Hid (x = owedN (ts.take j) k) ∧ Hid (FB w wr (fabO ra rl rc ea el ec ta tl tc now))) (fun _ i _ => tl - (intOf i).toNat)
  case atStart => exact ⟨0, 0, by omega, by omega, rfl, rfl, show _ = _ by simp [owedN], HF.out⟩
  case round =>
    obtain ⟨j, x, hj, hx, rfl, rfl, hn, hw⟩ := hrel
    clear HF
    have hB := fun o => fb_cell hw.out.box o
    by_cases hlt : j < tl
    · obtain ⟨b, off, t, rfl, e1, g0, g1, g2, g3, g4, g5, hf⟩ := txsG_at keeps_tfit HT.out hw.out.bel hlt
      have hS := owedN_succ k e1
      have HN : Hid (owedN (ts.take (j + 1)) k = x + (if owesB k t then 1 else 0)) := show _ = _ by rw [hS, ← hn.out]
      clear hS e1 hn
      have HF2 : Hid (TFit (wr.alloc t.obj) t) := hf.out.below (fbelow_new _ _)
      have HW2 : Hid (FB w (wr.alloc t.obj) (fabO ra rl rc ea el ec (some ⟨b, off, none⟩) tl tc now)) := hw.out.under (fbelow_new _ _)
      have hll := hf.out.lle
      have hrl := hf.out.rle
      clear hf hw
      go_wp2_with fail
      refine (spec_has t.la t.ll t.lc t.ls k _ HF2.out.l.nums hll).mono ?_
      rintro e w1 ⟨rfl, hw1⟩
      rw [hw1]
      clear hw1 w1
      cases h1 : hasB t.ls k with
      | true =>
        have hE : Hid (x + 1 = owedN (ts.take (j + 1)) k) := show _ = _ by rw [HN.out]; simp [owesB, h1]
        clear HN h1
        go_wp2
        exact ⟨⟨j + 1, x + 1, by omega, by omega, by go_num, by go_num, hE.out, HW2.out⟩, by simp [intOf]; omega⟩
      | false =>
        by_cases h2 : t.s = 1
        · have h2' : (t.s == 1) = true := by rw [beq_iff_eq]; exact h2
          go_wp2_with fail
          refine (spec_has t.ra t.rl t.rc t.rs k _ HF2.out.r.nums hrl).mono ?_
          rintro e w1 ⟨rfl, hw1⟩
          rw [hw1]
          clear hw1 w1
          cases h3 : hasB t.rs k with
          | true =>
            have hE : Hid (x + 1 = owedN (ts.take (j + 1)) k) := show _ = _ by rw [HN.out]; simp [owesB, h2, h3]
            clear HN h3 h1 h2
            go_wp2
            exact ⟨⟨j + 1, x + 1, by omega, by omega, by go_num, by go_num, hE.out, HW2.out⟩, by simp [intOf]; omega⟩
          | false =>
            have hE : Hid (x = owedN (ts.take (j + 1)) k) := show _ = _ by rw [HN.out]; simp [owesB, h1, h3]
            clear HN h3 h1 h2
            go_wp2
            exact ⟨⟨j + 1, x, by omega, by omega, by go_num, by go_num, hE.out, HW2.out⟩, by simp [intOf]; omega⟩
        · have h2' : (t.s == 1) = false := by rw [beq_eq_false_iff_ne]; exact h2
          have hE : Hid (x = owedN (ts.take (j + 1)) k) := show _ = _ by rw [HN.out]; simp [owesB, h1, h2]
          clear HN h1 h2
          go_wp2
          exact ⟨⟨j + 1, x, by omega, by omega, by go_num, by go_num, hE.out, HW2.out⟩, by simp [intOf]; omega⟩
    · have hE : Hid (x = owedN ts k) := by
        have h := hn.out
        rw [List.take_of_length_le (by rw [HL.out]; omega)] at h
        exact h
      go_wp2
      go_ret
      exact ⟨ret_int (by rw [hE.out]), hw.out.bel⟩
end Go.Proofs.YtahccighonddaaaGreatDoor
namespace Go.Proofs.YtahccighonddaaaGreatDoor
open Go.RowKit
attribute [local go_sem ↓] Go.wp_at_zero Go.wp_at_succ
set_option linter.unusedSimpArgs false
theorem field_rec1 (k t : Int) (d : ByteArray) (w : World) : (Instr.field 65 (recV k t d) 1).run Tryz.prog w = .ok (.int .i64 t) w := by kernel_rfl
structure LW (w v : World) (o : Obj) (X : Nat) (r : RD) (ta : Option Addr) (tl : Nat) (ts : List TD) : Prop where
  fb : FB w v o
  box : v.heap[X]? = some r.obj
  fit : r.fit v
  txs : Txs v ta tl ts
theorem LW.under {w u v : World} {o : Obj} {X : Nat} {r : RD} {ta : Option Addr} {tl : Nat} {ts : List TD} (h : LW w u o X r ta tl ts) (hb : Below u.heap.size u v) : LW w v o X r ta tl ts :=
  ⟨h.fb.under hb, (hb.block _ (fb_lt h.box)).trans h.box, h.fit.below hb, txs_below h.txs hb⟩
theorem rfit_no1 {ts : List TD} {k : Int} {r : RD} (h : ringRightB r.cap r.first r.recs r.curs = false) : ringFitB ts k r = false := by simp [ringFitB, h]
theorem rfit_no2 {ts : List TD} {k : Int} {r : RD} (h : r.cap - (r.recs.length : Int) < (owedN ts k : Int)) : ringFitB ts k r = false := by
  have : ¬ (owedN ts k : Int) ≤ r.cap - (r.recs.length : Int) := by omega
  simp [ringFitB, this]
theorem rfit_no3 {ts : List TD} {k : Int} {r : RD} (h : ¬ r.first + (r.recs.length : Int) + (owedN ts k : Int) ≤ 1000000) : ringFitB ts k r = false := by simp [ringFitB, h]
theorem rfit_no4 {ts : List TD} {k : Int} {r : RD} (h : r.recs.all (recFitB ts k) = false) : ringFitB ts k r = false := by simp only [ringFitB, h, Bool.and_false]
theorem rfit_yes {ts : List TD} {k : Int} {r : RD} (h1 : ringRightB r.cap r.first r.recs r.curs = true) (h2 : ¬ r.cap - (r.recs.length : Int) < (owedN ts k : Int)) (h3 : r.first + (r.recs.length : Int) + (owedN ts k : Int) ≤ 1000000) (h4 : r.recs.all (recFitB ts k) = true) : ringFitB ts k r = true := by
  have : (owedN ts k : Int) ≤ r.cap - (r.recs.length : Int) := by omega
  simp only [ringFitB, h1, h4, decide_eq_true this, decide_eq_true h3, Bool.and_true]
theorem rec_num {cap first : Int} {recs : List ByteArray} {curs : List (Int × Int)} (h : ringRightB cap first recs curs = true) {K : Nat} (hK : K < recs.length) : 1 ≤ (recAt recs K).2.1 ∧ (recAt recs K).2.1 ≤ 1000000 ∧ recAt recs K = readRes recs[K] := by
  have hr : recsOk recs = true := by simp [ringRightB] at h; exact h.1.1.2
  have hg : recs.getD K ⟨#[]⟩ = recs[K] := by rw [List.getD_eq_getElem?_getD, List.getElem?_eq_getElem hK]; rfl
  have e : recAt recs K = readRes recs[K] := by unfold recAt; rw [hg]
  have h1 : recOkB recs[K] = true := List.all_eq_true.1 hr _ (List.getElem_mem hK)
  rcases readRes_cases recs[K] with ⟨c, hc, h2⟩ | ⟨a, t, d, h2, h3⟩
  · simp [recOkB, h2, hc] at h1
  · simp [recRightB] at h3
    rw [e, h2]
    exact ⟨h3.1.1.2.1, h3.1.1.2.2, rfl⟩
set_option maxRecDepth 100000 in
set_option maxHeartbeats 16000000 in
theorem spec_lring (ra : Option Addr) (rl rc : Nat) (ea : Option Addr) (el ec : Nat) (ta : Option Addr) (tl tc : Nat) (now : Int) (rs : List RD) (ts : List TD) (k : Nat) (r : RD) (w : World) (hR : Rngs w ra rl rs) (hT : Txs w ta tl ts) (hk : rs[k]? = some r) (_hrl : rl ≤ 1048576) (htl : tl ≤ 1048576) :
    Calls Tryz.prog 125 #[fabVal ra rl rc ea el ec ta tl tc now, .int .i64 k] w fun e w' => e = .returned (.bool (ringFitB ts k r)) ∧ Below w.heap.size w w' := by
  have hkl : k < rl := by rw [← hR.1]; exact (List.getElem?_eq_some_iff.1 hk).1
  have HT : Hid (Txs w ta tl ts) := hT
  have HL : Hid (ts.length = tl) := hT.1
  have hF0 := fb_new w #[.slice ra rl rc, .slice ea el ec, .slice ta tl tc, .int .i64 now] 31
  obtain ⟨b, off, r', rfl, e1, g0, g1, g2, g3, hf⟩ := rngsG_at keeps_fit hR hF0.bel hkl
  obtain rfl : r = r' := Option.some.inj (hk.symm.trans e1)
  clear hT hR e1 hk
  have H0 : Hid (LW w ((w.alloc (fabO (some ⟨b, off, none⟩) rl rc ea el ec ta tl tc now)).alloc r.obj) (fabO (some ⟨b, off, none⟩) rl rc ea el ec ta tl tc now) (w.heap.size + 1) r ta tl ts) :=
    ⟨hF0.under (fbelow_new _ _), by have h := heap_alloc_new (w.alloc (fabO (some ⟨b, off, none⟩) rl rc ea el ec ta tl tc now)) r.obj; rwa [World.size_alloc] at h, hf.out.below (fbelow_new _ _), txs_below HT.out (below_tr hF0.bel (fbelow_new _ _))⟩
  clear hF0 hf HT
  obtain ⟨cap, first, ra', rl', rc', ca', cl', cc', recs, curs⟩ := r
  simp only at g0 g1 g2 g3
  have hrl' : rl' ≤ 1048576 := H0.out.fit.rle
  have hlen : recs.length = rl' := H0.out.fit.str.strs.1
  have HR : Hid _ := fun w (h : RFit w ra' rl' rc' ca' cl' cc' recs curs) => spec_ringRight cap first ra' rl' rc' ca' cl' cc' recs curs w h.str.strs h.cur.curs h.rin.sz' h.rle h.cle
  have HO : Hid _ := fun w (h : Txs w ta tl ts) => spec_lowed (some ⟨b, off, none⟩) rl rc ea el ec ta tl tc now (k : Int) ts w h htl
  obtain ⟨N, hN⟩ : ∃ N, owedN ts (k : Int) = N := ⟨_, rfl⟩
  have hNl : N ≤ tl := by rw [← hN, ← HL.out]; exact owedN_le _ _
  rw [hN] at HO
  have HNN : Hid _ := hN
  clear hN
  obtain ⟨R, hRR⟩ : ∃ R, ringRightB cap first recs curs = R := ⟨_, rfl⟩
  rw [hRR] at HR
  go_enter Tryz.func125, Tryz.ntmps125
  go_upto_region 2 with fail
  have H1 : Hid (LW w ((w.alloc (fabO (some ⟨b, off, none⟩) rl rc ea el ec ta tl tc now)).alloc (ringObj cap first ra' rl' rc' ca' cl' cc')).drew (fabO (some ⟨b, off, none⟩) rl rc ea el ec ta tl tc now) (w.heap.size + 1) ⟨cap, first, ra', rl', rc', ca', cl', cc', recs, curs⟩ ta tl ts) := H0.out.under ((Below.refl _ _).drew)
  clear H0
  cases R with
  | false =>
    have hE : Hid (ringFitB ts (k : Int) ⟨cap, first, ra', rl', rc', ca', cl', cc', recs, curs⟩ = false) := rfit_no1 hRR
    clear hRR
    refine wp_region_held_drew (S := (fun x => (∀ o, x.cell? ⟨w.heap.size + 1, o, none⟩ = (#[.int .i64 cap, .int .i64 first, .slice ra' rl' rc', .slice ca' cl' cc'] : Array Value)[o]?) ∧ (∀ o, x.cell? ⟨w.heap.size, o, none⟩ = (#[.slice (some ⟨b, off, none⟩) rl rc, .slice ea el ec, .slice ta tl tc, .int .i64 now] : Array Value)[o]?))) (by kernel_rfl) (⟨fun o => fb_cell H1.out.box o, fun o => fb_cell H1.out.fb.box o⟩) (fun hHeld => ?_)
    refine tk (i := 0) (v := ?_) rfl hHeld (.inl ⟨by rfl, ?_⟩) ?_
    rotate_left
    · intro wy hSw; (try dsimp only at hSw); go_simp; (try with_reducible rfl)
    try simp only [Act.put, n1, n2, n3, n4, n5, n6]
    refine wpAnyH_ready (rs := [1]) (by kernel_rfl) (by simp) ?_
    refine AllReadyH.cons rfl (fun K hK => ?_) AllReadyH.nil
    go_simp
    refine (HR.out _ H1.out.fit).mono ?_; rintro x v ⟨rfl, hbv⟩; have H1 : Hid (LW w v (fabO (some ⟨b, off, none⟩) rl rc ea el ec ta tl tc now) (w.heap.size + 1) ⟨cap, first, ra', rl', rc', ca', cl', cc', recs, curs⟩ ta tl ts) := H1.out.under hbv; clear hbv
    go_wp2_with fail
    refine hK.out _ _ ?_ (fun hHeld => ?_)
    · exact ⟨fun o => fb_cell H1.out.box o, fun o => fb_cell H1.out.fb.box o⟩
    clear hK K
    try simp only [Act.put, n1, n2, n3, n4, n5, n6]
    refine tk (i := 2) (v := ?_) rfl hHeld (.inl ⟨by rfl, ?_⟩) ?_
    rotate_left
    · intro wy hSw; (try dsimp only at hSw); go_simp; (try with_reducible rfl)
    try simp only [Act.put, n1, n2, n3, n4, n5, n6]
    refine tk (i := 3) (v := ?_) rfl hHeld (.inl ⟨by rfl, ?_⟩) ?_
    rotate_left
    · intro wy hSw; (try dsimp only at hSw); go_simp; (try with_reducible rfl)
    try simp only [Act.put, n1, n2, n3, n4, n5, n6]
    refine tk (i := 4) (v := undef) rfl hHeld (.inr ⟨by rfl, rfl⟩) ?_
    try simp only [Act.put, n1, n2, n3, n4, n5, n6]
    refine tk (i := 5) (v := undef) rfl hHeld (.inr ⟨by rfl, rfl⟩) ?_
    try simp only [Act.put, n1, n2, n3, n4, n5, n6]
    refine tk (i := 6) (v := undef) rfl hHeld (.inr ⟨by rfl, rfl⟩) ?_
    try simp only [Act.put, n1, n2, n3, n4, n5, n6]
    refine tk (i := 7) (v := undef) rfl hHeld (.inr ⟨by rfl, rfl⟩) ?_
    try simp only [Act.put, n1, n2, n3, n4, n5, n6]
    refine tk (i := 8) (v := undef) rfl hHeld (.inr ⟨by rfl, rfl⟩) ?_
    try simp only [Act.put, n1, n2, n3, n4, n5, n6]
    refine tk (i := 9) (v := undef) rfl hHeld (.inr ⟨by rfl, rfl⟩) ?_
    try simp only [Act.put, n1, n2, n3, n4, n5, n6]
    refine tk (i := 10) (v := ?_) rfl hHeld (.inl ⟨by rfl, ?_⟩) ?_
    rotate_left
    · intro wy hSw; (try dsimp only at hSw); go_simp; (try with_reducible rfl)
    try simp only [Act.put, n1, n2, n3, n4, n5, n6]
    refine tk (i := 11) (v := ?_) rfl hHeld (.inl ⟨by rfl, ?_⟩) ?_
    rotate_left
    · intro wy hSw; (try dsimp only at hSw); go_simp; (try with_reducible rfl)
    try simp only [Act.put, n1, n2, n3, n4, n5, n6]
    refine tk (i := 12) (v := undef) rfl hHeld (.inr ⟨by rfl, rfl⟩) ?_
    try simp only [Act.put, n1, n2, n3, n4, n5, n6]
    refine tk (i := 13) (v := undef) rfl hHeld (.inr ⟨by rfl, rfl⟩) ?_
    try simp only [Act.put, n1, n2, n3, n4, n5, n6]
    refine tk (i := 14) (v := undef) rfl hHeld (.inr ⟨by rfl, rfl⟩) ?_
    try simp only [Act.put, n1, n2, n3, n4, n5, n6]
    refine tk (i := 15) (v := undef) rfl hHeld (.inr ⟨by rfl, rfl⟩) ?_
    try simp only [Act.put, n1, n2, n3, n4, n5, n6]
    refine tk (i := 16) (v := undef) rfl hHeld (.inr ⟨by rfl, rfl⟩) ?_
    try simp only [Act.put, n1, n2, n3, n4, n5, n6]
    refine tk (i := 17) (v := undef) rfl hHeld (.inr ⟨by rfl, rfl⟩) ?_
    try simp only [Act.put, n1, n2, n3, n4, n5, n6]
    refine tk (i := 18) (v := undef) rfl hHeld (.inr ⟨by rfl, rfl⟩) ?_
    try simp only [Act.put, n1, n2, n3, n4, n5, n6]
    refine tk (i := 19) (v := ?_) rfl hHeld (.inl ⟨by rfl, ?_⟩) ?_
    rotate_left
    · intro wy hSw; (try dsimp only at hSw); go_simp; (try with_reducible rfl)
    try simp only [Act.put, n1, n2, n3, n4, n5, n6]
    refine wpAnyH_done (by kernel_rfl) ?_ _
    go_wp2
    go_ret
    exact ⟨ret_bool hE.out.symm, H1.out.fb.bel⟩
  | true =>
    obtain ⟨hF, hC, _, hEd, _⟩ := right_first hRR
    have HRR : Hid (ringRightB cap first recs curs = true) := hRR
    rw [hlen] at hEd
    have HM : Hid (∀ w, True → _) := fun w _ => spec_room cap first ra' rl' rc' ca' cl' cc' w (by omega) hrl'
    have HE : Hid (∀ w, True → _) := fun w _ => spec_end cap first ra' rl' rc' ca' cl' cc' w hF hrl'
    clear hRR
    have hw1 : IntKind.i64.wrap (first + (rl' : Int) + (N : Int)) = first + (rl' : Int) + (N : Int) := twrap_in _ (by omega) (by omega)
    by_cases hB : cap - (rl' : Int) < (N : Int)
    · have hE : Hid (ringFitB ts (k : Int) ⟨cap, first, ra', rl', rc', ca', cl', cc', recs, curs⟩ = false) := rfit_no2 (show cap - (recs.length : Int) < _ by rw [HNN.out, hlen]; exact hB)
      refine wp_region_held_drew (S := (fun x => (∀ o, x.cell? ⟨w.heap.size + 1, o, none⟩ = (#[.int .i64 cap, .int .i64 first, .slice ra' rl' rc', .slice ca' cl' cc'] : Array Value)[o]?) ∧ (∀ o, x.cell? ⟨w.heap.size, o, none⟩ = (#[.slice (some ⟨b, off, none⟩) rl rc, .slice ea el ec, .slice ta tl tc, .int .i64 now] : Array Value)[o]?))) (by kernel_rfl) (⟨fun o => fb_cell H1.out.box o, fun o => fb_cell H1.out.fb.box o⟩) (fun hHeld => ?_)
      refine tk (i := 0) (v := ?_) rfl hHeld (.inl ⟨by rfl, ?_⟩) ?_
      rotate_left
      · intro wy hSw; (try dsimp only at hSw); go_simp; (try with_reducible rfl)
      try simp only [Act.put, n1, n2, n3, n4, n5, n6]
      refine wpAnyH_ready (rs := [1]) (by kernel_rfl) (by simp) ?_
      refine AllReadyH.cons rfl (fun K hK => ?_) AllReadyH.nil
      go_simp
      refine (HR.out _ H1.out.fit).mono ?_; rintro x v ⟨rfl, hbv⟩; have H1 : Hid (LW w v (fabO (some ⟨b, off, none⟩) rl rc ea el ec ta tl tc now) (w.heap.size + 1) ⟨cap, first, ra', rl', rc', ca', cl', cc', recs, curs⟩ ta tl ts) := H1.out.under hbv; clear hbv
      go_wp2_with fail
      refine hK.out _ _ ?_ (fun hHeld => ?_)
      · exact ⟨fun o => fb_cell H1.out.box o, fun o => fb_cell H1.out.fb.box o⟩
      clear hK K
      try simp only [Act.put, n1, n2, n3, n4, n5, n6]
      refine tk (i := 2) (v := ?_) rfl hHeld (.inl ⟨by rfl, ?_⟩) ?_
      rotate_left
      · intro wy hSw; (try dsimp only at hSw); go_simp; (try with_reducible rfl)
      try simp only [Act.put, n1, n2, n3, n4, n5, n6]
      refine tk (i := 3) (v := ?_) rfl hHeld (.inl ⟨by rfl, ?_⟩) ?_
      rotate_left
      · intro wy hSw; (try dsimp only at hSw); go_simp; (try with_reducible rfl)
      try simp only [Act.put, n1, n2, n3, n4, n5, n6]
      refine tk (i := 4) (v := ?_) rfl hHeld (.inl ⟨by rfl, ?_⟩) ?_
      rotate_left
      · intro wy hSw; (try dsimp only at hSw); go_simp; (try with_reducible rfl)
      try simp only [Act.put, n1, n2, n3, n4, n5, n6]
      refine tk (i := 6) (v := ?_) rfl hHeld (.inl ⟨by rfl, ?_⟩) ?_
      rotate_left
      · intro wy hSw; (try dsimp only at hSw); go_simp; (try with_reducible rfl)
      try simp only [Act.put, n1, n2, n3, n4, n5, n6]
      refine tk (i := 7) (v := ?_) rfl hHeld (.inl ⟨by rfl, ?_⟩) ?_
      rotate_left
      · intro wy hSw; (try dsimp only at hSw); go_simp; (try with_reducible rfl)
      try simp only [Act.put, n1, n2, n3, n4, n5, n6]
      refine wpAnyH_ready (rs := [5]) (by kernel_rfl) (by simp) ?_
      refine AllReadyH.cons rfl (fun K hK => ?_) AllReadyH.nil
      go_simp
      refine (HM.out _ trivial).mono ?_; rintro x v ⟨rfl, hbv⟩; have H1 : Hid (LW w v (fabO (some ⟨b, off, none⟩) rl rc ea el ec ta tl tc now) (w.heap.size + 1) ⟨cap, first, ra', rl', rc', ca', cl', cc', recs, curs⟩ ta tl ts) := H1.out.under hbv; clear hbv
      go_wp2_with fail
      refine hK.out _ _ ?_ (fun hHeld => ?_)
      · exact ⟨fun o => fb_cell H1.out.box o, fun o => fb_cell H1.out.fb.box o⟩
      clear hK K
      try simp only [Act.put, n1, n2, n3, n4, n5, n6]
      refine wpAnyH_ready (rs := [8]) (by kernel_rfl) (by simp) ?_
      refine AllReadyH.cons rfl (fun K hK => ?_) AllReadyH.nil
      go_simp
      refine (HO.out _ H1.out.txs).mono ?_; rintro x v ⟨rfl, hbv⟩; have H1 : Hid (LW w v (fabO (some ⟨b, off, none⟩) rl rc ea el ec ta tl tc now) (w.heap.size + 1) ⟨cap, first, ra', rl', rc', ca', cl', cc', recs, curs⟩ ta tl ts) := H1.out.under hbv; clear hbv
      go_wp2_with fail
      refine hK.out _ _ ?_ (fun hHeld => ?_)
      · exact ⟨fun o => fb_cell H1.out.box o, fun o => fb_cell H1.out.fb.box o⟩
      clear hK K
      try simp only [Act.put, n1, n2, n3, n4, n5, n6]
      refine tk (i := 9) (v := ?_) rfl hHeld (.inl ⟨by rfl, ?_⟩) ?_
      rotate_left
      · intro wy hSw; (try dsimp only at hSw); go_simp; (try with_reducible rfl)
      try simp only [Act.put, n1, n2, n3, n4, n5, n6]
      refine tk (i := 10) (v := ?_) rfl hHeld (.inl ⟨by rfl, ?_⟩) ?_
      rotate_left
      · intro wy hSw; (try dsimp only at hSw); go_simp; (try with_reducible rfl)
      try simp only [Act.put, n1, n2, n3, n4, n5, n6]
      refine tk (i := 11) (v := ?_) rfl hHeld (.inl ⟨by rfl, ?_⟩) ?_
      rotate_left
      · intro wy hSw; (try dsimp only at hSw); go_simp; (try with_reducible rfl)
      try simp only [Act.put, n1, n2, n3, n4, n5, n6]
      refine tk (i := 12) (v := undef) rfl hHeld (.inr ⟨by rfl, rfl⟩) ?_
      try simp only [Act.put, n1, n2, n3, n4, n5, n6]
      refine tk (i := 13) (v := undef) rfl hHeld (.inr ⟨by rfl, rfl⟩) ?_
      try simp only [Act.put, n1, n2, n3, n4, n5, n6]
      refine tk (i := 14) (v := undef) rfl hHeld (.inr ⟨by rfl, rfl⟩) ?_
      try simp only [Act.put, n1, n2, n3, n4, n5, n6]
      refine tk (i := 15) (v := undef) rfl hHeld (.inr ⟨by rfl, rfl⟩) ?_
      try simp only [Act.put, n1, n2, n3, n4, n5, n6]
      refine tk (i := 16) (v := undef) rfl hHeld (.inr ⟨by rfl, rfl⟩) ?_
      try simp only [Act.put, n1, n2, n3, n4, n5, n6]
      refine tk (i := 17) (v := undef) rfl hHeld (.inr ⟨by rfl, rfl⟩) ?_
      try simp only [Act.put, n1, n2, n3, n4, n5, n6]
      refine tk (i := 18) (v := undef) rfl hHeld (.inr ⟨by rfl, rfl⟩) ?_
      try simp only [Act.put, n1, n2, n3, n4, n5, n6]
      refine tk (i := 19) (v := ?_) rfl hHeld (.inl ⟨by rfl, ?_⟩) ?_
      rotate_left
      · intro wy hSw; (try dsimp only at hSw); go_simp; (try with_reducible rfl)
      try simp only [Act.put, n1, n2, n3, n4, n5, n6]
      refine wpAnyH_done (by kernel_rfl) ?_ _
      go_wp2
      go_ret
      exact ⟨ret_bool hE.out.symm, H1.out.fb.bel⟩
    have hBB : Hid (¬ cap - (rl' : Int) < (N : Int)) := hB
    have hBd : decide (cap - (rl' : Int) < (N : Int)) = false := decide_eq_false hB
    clear hB
    by_cases hG : first + (rl' : Int) + (N : Int) ≤ 1000000
    case neg =>
      have hE : Hid (ringFitB ts (k : Int) ⟨cap, first, ra', rl', rc', ca', cl', cc', recs, curs⟩ = false) := rfit_no3 (show ¬ first + (recs.length : Int) + _ ≤ 1000000 by rw [HNN.out, hlen]; exact hG)
      have hG' : 1000000 < first + (rl' : Int) + (N : Int) := by omega
      refine wp_region_held_drew (S := (fun x => (∀ o, x.cell? ⟨w.heap.size + 1, o, none⟩ = (#[.int .i64 cap, .int .i64 first, .slice ra' rl' rc', .slice ca' cl' cc'] : Array Value)[o]?) ∧ (∀ o, x.cell? ⟨w.heap.size, o, none⟩ = (#[.slice (some ⟨b, off, none⟩) rl rc, .slice ea el ec, .slice ta tl tc, .int .i64 now] : Array Value)[o]?))) (by kernel_rfl) (⟨fun o => fb_cell H1.out.box o, fun o => fb_cell H1.out.fb.box o⟩) (fun hHeld => ?_)
      refine tk (i := 0) (v := ?_) rfl hHeld (.inl ⟨by rfl, ?_⟩) ?_
      rotate_left
      · intro wy hSw; (try dsimp only at hSw); go_simp; (try with_reducible rfl)
      try simp only [Act.put, n1, n2, n3, n4, n5, n6]
      refine wpAnyH_ready (rs := [1]) (by kernel_rfl) (by simp) ?_
      refine AllReadyH.cons rfl (fun K hK => ?_) AllReadyH.nil
      go_simp
      refine (HR.out _ H1.out.fit).mono ?_; rintro x v ⟨rfl, hbv⟩; have H1 : Hid (LW w v (fabO (some ⟨b, off, none⟩) rl rc ea el ec ta tl tc now) (w.heap.size + 1) ⟨cap, first, ra', rl', rc', ca', cl', cc', recs, curs⟩ ta tl ts) := H1.out.under hbv; clear hbv
      go_wp2_with fail
      refine hK.out _ _ ?_ (fun hHeld => ?_)
      · exact ⟨fun o => fb_cell H1.out.box o, fun o => fb_cell H1.out.fb.box o⟩
      clear hK K
      try simp only [Act.put, n1, n2, n3, n4, n5, n6]
      refine tk (i := 2) (v := ?_) rfl hHeld (.inl ⟨by rfl, ?_⟩) ?_
      rotate_left
      · intro wy hSw; (try dsimp only at hSw); go_simp; (try with_reducible rfl)
      try simp only [Act.put, n1, n2, n3, n4, n5, n6]
      refine tk (i := 3) (v := ?_) rfl hHeld (.inl ⟨by rfl, ?_⟩) ?_
      rotate_left
      · intro wy hSw; (try dsimp only at hSw); go_simp; (try with_reducible rfl)
      try simp only [Act.put, n1, n2, n3, n4, n5, n6]
      refine tk (i := 4) (v := ?_) rfl hHeld (.inl ⟨by rfl, ?_⟩) ?_
      rotate_left
      · intro wy hSw; (try dsimp only at hSw); go_simp; (try with_reducible rfl)
      try simp only [Act.put, n1, n2, n3, n4, n5, n6]
      refine tk (i := 6) (v := ?_) rfl hHeld (.inl ⟨by rfl, ?_⟩) ?_
      rotate_left
      · intro wy hSw; (try dsimp only at hSw); go_simp; (try with_reducible rfl)
      try simp only [Act.put, n1, n2, n3, n4, n5, n6]
      refine tk (i := 7) (v := ?_) rfl hHeld (.inl ⟨by rfl, ?_⟩) ?_
      rotate_left
      · intro wy hSw; (try dsimp only at hSw); go_simp; (try with_reducible rfl)
      try simp only [Act.put, n1, n2, n3, n4, n5, n6]
      refine wpAnyH_ready (rs := [5]) (by kernel_rfl) (by simp) ?_
      refine AllReadyH.cons rfl (fun K hK => ?_) AllReadyH.nil
      go_simp
      refine (HM.out _ trivial).mono ?_; rintro x v ⟨rfl, hbv⟩; have H1 : Hid (LW w v (fabO (some ⟨b, off, none⟩) rl rc ea el ec ta tl tc now) (w.heap.size + 1) ⟨cap, first, ra', rl', rc', ca', cl', cc', recs, curs⟩ ta tl ts) := H1.out.under hbv; clear hbv
      go_wp2_with fail
      refine hK.out _ _ ?_ (fun hHeld => ?_)
      · exact ⟨fun o => fb_cell H1.out.box o, fun o => fb_cell H1.out.fb.box o⟩
      clear hK K
      try simp only [Act.put, n1, n2, n3, n4, n5, n6]
      refine wpAnyH_ready (rs := [8]) (by kernel_rfl) (by simp) ?_
      refine AllReadyH.cons rfl (fun K hK => ?_) AllReadyH.nil
      go_simp
      refine (HO.out _ H1.out.txs).mono ?_; rintro x v ⟨rfl, hbv⟩; have H1 : Hid (LW w v (fabO (some ⟨b, off, none⟩) rl rc ea el ec ta tl tc now) (w.heap.size + 1) ⟨cap, first, ra', rl', rc', ca', cl', cc', recs, curs⟩ ta tl ts) := H1.out.under hbv; clear hbv
      go_wp2_with fail
      refine hK.out _ _ ?_ (fun hHeld => ?_)
      · exact ⟨fun o => fb_cell H1.out.box o, fun o => fb_cell H1.out.fb.box o⟩
      clear hK K
      try simp only [Act.put, n1, n2, n3, n4, n5, n6]
      refine tk (i := 9) (v := ?_) rfl hHeld (.inl ⟨by rfl, ?_⟩) ?_
      rotate_left
      · intro wy hSw; (try dsimp only at hSw); go_simp; (try with_reducible rfl)
      try simp only [Act.put, n1, n2, n3, n4, n5, n6]
      refine tk (i := 10) (v := ?_) rfl hHeld (.inl ⟨by rfl, ?_⟩) ?_
      rotate_left
      · intro wy hSw; (try dsimp only at hSw); go_simp; (try with_reducible rfl)
      try simp only [Act.put, n1, n2, n3, n4, n5, n6]
      refine tk (i := 11) (v := ?_) rfl hHeld (.inl ⟨by rfl, ?_⟩) ?_
      rotate_left
      · intro wy hSw; (try dsimp only at hSw); go_simp; (try with_reducible rfl)
      try simp only [Act.put, n1, n2, n3, n4, n5, n6]
      refine tk (i := 12) (v := ?_) rfl hHeld (.inl ⟨by rfl, ?_⟩) ?_
      rotate_left
      · intro wy hSw; (try dsimp only at hSw); go_simp; (try with_reducible rfl)
      try simp only [Act.put, n1, n2, n3, n4, n5, n6]
      refine tk (i := 14) (v := ?_) rfl hHeld (.inl ⟨by rfl, ?_⟩) ?_
      rotate_left
      · intro wy hSw; (try dsimp only at hSw); go_simp; (try with_reducible rfl)
      try simp only [Act.put, n1, n2, n3, n4, n5, n6]
      refine tk (i := 15) (v := ?_) rfl hHeld (.inl ⟨by rfl, ?_⟩) ?_
      rotate_left
      · intro wy hSw; (try dsimp only at hSw); go_simp; (try with_reducible rfl)
      try simp only [Act.put, n1, n2, n3, n4, n5, n6]
      refine wpAnyH_ready (rs := [13]) (by kernel_rfl) (by simp) ?_
      refine AllReadyH.cons rfl (fun K hK => ?_) AllReadyH.nil
      go_simp
      refine (HE.out _ trivial).mono ?_; rintro x v ⟨rfl, hbv⟩; have H1 : Hid (LW w v (fabO (some ⟨b, off, none⟩) rl rc ea el ec ta tl tc now) (w.heap.size + 1) ⟨cap, first, ra', rl', rc', ca', cl', cc', recs, curs⟩ ta tl ts) := H1.out.under hbv; clear hbv
      go_wp2_with fail
      refine hK.out _ _ ?_ (fun hHeld => ?_)
      · exact ⟨fun o => fb_cell H1.out.box o, fun o => fb_cell H1.out.fb.box o⟩
      clear hK K
      try simp only [Act.put, n1, n2, n3, n4, n5, n6]
      refine wpAnyH_ready (rs := [16]) (by kernel_rfl) (by simp) ?_
      refine AllReadyH.cons rfl (fun K hK => ?_) AllReadyH.nil
      go_simp
      refine (HO.out _ H1.out.txs).mono ?_; rintro x v ⟨rfl, hbv⟩; have H1 : Hid (LW w v (fabO (some ⟨b, off, none⟩) rl rc ea el ec ta tl tc now) (w.heap.size + 1) ⟨cap, first, ra', rl', rc', ca', cl', cc', recs, curs⟩ ta tl ts) := H1.out.under hbv; clear hbv
      go_wp2_with fail
      refine hK.out _ _ ?_ (fun hHeld => ?_)
      · exact ⟨fun o => fb_cell H1.out.box o, fun o => fb_cell H1.out.fb.box o⟩
      clear hK K
      try simp only [Act.put, n1, n2, n3, n4, n5, n6]
      refine tk (i := 17) (v := ?_) rfl hHeld (.inl ⟨by rfl, ?_⟩) ?_
      rotate_left
      · intro wy hSw; (try dsimp only at hSw); go_simp; (try with_reducible rfl)
      try simp only [Act.put, n1, n2, n3, n4, n5, n6]
      refine tk (i := 18) (v := ?_) rfl hHeld (.inl ⟨by rfl, ?_⟩) ?_
      rotate_left
      · intro wy hSw; (try dsimp only at hSw); go_simp; (try with_reducible rfl)
      try simp only [Act.put, n1, n2, n3, n4, n5, n6]
      refine tk (i := 19) (v := ?_) rfl hHeld (.inl ⟨by rfl, ?_⟩) ?_
      rotate_left
      · intro wy hSw; (try dsimp only at hSw); go_simp; (try with_reducible rfl)
      try simp only [Act.put, n1, n2, n3, n4, n5, n6]
      refine wpAnyH_done (by kernel_rfl) ?_ _
      go_wp2
      go_ret
      exact ⟨ret_bool hE.out.symm, H1.out.fb.bel⟩
    have hG' : decide (1000000 < first + (rl' : Int) + (N : Int)) = false := decide_eq_false (by omega)
    go_cut [32] (fun s32 wc => s32 = .bool false ∧ Hid (LW w wc (fabO (some ⟨b, off, none⟩) rl rc ea el ec ta tl tc now) (w.heap.size + 1) ⟨cap, first, ra', rl', rc', ca', cl', cc', recs, curs⟩ ta tl ts))
    case first =>
      refine wp_region_held_drew (S := (fun x => (∀ o, x.cell? ⟨w.heap.size + 1, o, none⟩ = (#[.int .i64 cap, .int .i64 first, .slice ra' rl' rc', .slice ca' cl' cc'] : Array Value)[o]?) ∧ (∀ o, x.cell? ⟨w.heap.size, o, none⟩ = (#[.slice (some ⟨b, off, none⟩) rl rc, .slice ea el ec, .slice ta tl tc, .int .i64 now] : Array Value)[o]?))) (by kernel_rfl) (⟨fun o => fb_cell H1.out.box o, fun o => fb_cell H1.out.fb.box o⟩) (fun hHeld => ?_)
      refine tk (i := 0) (v := ?_) rfl hHeld (.inl ⟨by rfl, ?_⟩) ?_
      rotate_left
      · intro wy hSw; (try dsimp only at hSw); go_simp; (try with_reducible rfl)
      try simp only [Act.put, n1, n2, n3, n4, n5, n6]
      refine wpAnyH_ready (rs := [1]) (by kernel_rfl) (by simp) ?_
      refine AllReadyH.cons rfl (fun K hK => ?_) AllReadyH.nil
      go_simp
      refine (HR.out _ H1.out.fit).mono ?_; rintro x v ⟨rfl, hbv⟩; have H1 : Hid (LW w v (fabO (some ⟨b, off, none⟩) rl rc ea el ec ta tl tc now) (w.heap.size + 1) ⟨cap, first, ra', rl', rc', ca', cl', cc', recs, curs⟩ ta tl ts) := H1.out.under hbv; clear hbv
      go_wp2_with fail
      refine hK.out _ _ ?_ (fun hHeld => ?_)
      · exact ⟨fun o => fb_cell H1.out.box o, fun o => fb_cell H1.out.fb.box o⟩
      clear hK K
      try simp only [Act.put, n1, n2, n3, n4, n5, n6]
      refine tk (i := 2) (v := ?_) rfl hHeld (.inl ⟨by rfl, ?_⟩) ?_
      rotate_left
      · intro wy hSw; (try dsimp only at hSw); go_simp; (try with_reducible rfl)
      try simp only [Act.put, n1, n2, n3, n4, n5, n6]
      refine tk (i := 3) (v := ?_) rfl hHeld (.inl ⟨by rfl, ?_⟩) ?_
      rotate_left
      · intro wy hSw; (try dsimp only at hSw); go_simp; (try with_reducible rfl)
      try simp only [Act.put, n1, n2, n3, n4, n5, n6]
      refine tk (i := 4) (v := ?_) rfl hHeld (.inl ⟨by rfl, ?_⟩) ?_
      rotate_left
      · intro wy hSw; (try dsimp only at hSw); go_simp; (try with_reducible rfl)
      try simp only [Act.put, n1, n2, n3, n4, n5, n6]
      refine tk (i := 6) (v := ?_) rfl hHeld (.inl ⟨by rfl, ?_⟩) ?_
      rotate_left
      · intro wy hSw; (try dsimp only at hSw); go_simp; (try with_reducible rfl)
      try simp only [Act.put, n1, n2, n3, n4, n5, n6]
      refine tk (i := 7) (v := ?_) rfl hHeld (.inl ⟨by rfl, ?_⟩) ?_
      rotate_left
      · intro wy hSw; (try dsimp only at hSw); go_simp; (try with_reducible rfl)
      try simp only [Act.put, n1, n2, n3, n4, n5, n6]
      refine wpAnyH_ready (rs := [5]) (by kernel_rfl) (by simp) ?_
      refine AllReadyH.cons rfl (fun K hK => ?_) AllReadyH.nil
      go_simp
      refine (HM.out _ trivial).mono ?_; rintro x v ⟨rfl, hbv⟩; have H1 : Hid (LW w v (fabO (some ⟨b, off, none⟩) rl rc ea el ec ta tl tc now) (w.heap.size + 1) ⟨cap, first, ra', rl', rc', ca', cl', cc', recs, curs⟩ ta tl ts) := H1.out.under hbv; clear hbv
      go_wp2_with fail
      refine hK.out _ _ ?_ (fun hHeld => ?_)
      · exact ⟨fun o => fb_cell H1.out.box o, fun o => fb_cell H1.out.fb.box o⟩
      clear hK K
      try simp only [Act.put, n1, n2, n3, n4, n5, n6]
      refine wpAnyH_ready (rs := [8]) (by kernel_rfl) (by simp) ?_
      refine AllReadyH.cons rfl (fun K hK => ?_) AllReadyH.nil
      go_simp
      refine (HO.out _ H1.out.txs).mono ?_; rintro x v ⟨rfl, hbv⟩; have H1 : Hid (LW w v (fabO (some ⟨b, off, none⟩) rl rc ea el ec ta tl tc now) (w.heap.size + 1) ⟨cap, first, ra', rl', rc', ca', cl', cc', recs, curs⟩ ta tl ts) := H1.out.under hbv; clear hbv
      go_wp2_with fail
      refine hK.out _ _ ?_ (fun hHeld => ?_)
      · exact ⟨fun o => fb_cell H1.out.box o, fun o => fb_cell H1.out.fb.box o⟩
      clear hK K
      try simp only [Act.put, n1, n2, n3, n4, n5, n6]
      refine tk (i := 9) (v := ?_) rfl hHeld (.inl ⟨by rfl, ?_⟩) ?_
      rotate_left
      · intro wy hSw; (try dsimp only at hSw); go_simp; (try with_reducible rfl)
      try simp only [Act.put, n1, n2, n3, n4, n5, n6]
      refine tk (i := 10) (v := ?_) rfl hHeld (.inl ⟨by rfl, ?_⟩) ?_
      rotate_left
      · intro wy hSw; (try dsimp only at hSw); go_simp; (try with_reducible rfl)
      try simp only [Act.put, n1, n2, n3, n4, n5, n6]
      refine tk (i := 11) (v := ?_) rfl hHeld (.inl ⟨by rfl, ?_⟩) ?_
      rotate_left
      · intro wy hSw; (try dsimp only at hSw); go_simp; (try with_reducible rfl)
      try simp only [Act.put, n1, n2, n3, n4, n5, n6]
      refine tk (i := 12) (v := ?_) rfl hHeld (.inl ⟨by rfl, ?_⟩) ?_
      rotate_left
      · intro wy hSw; (try dsimp only at hSw); go_simp; (try with_reducible rfl)
      try simp only [Act.put, n1, n2, n3, n4, n5, n6]
      refine tk (i := 14) (v := ?_) rfl hHeld (.inl ⟨by rfl, ?_⟩) ?_
      rotate_left
      · intro wy hSw; (try dsimp only at hSw); go_simp; (try with_reducible rfl)
      try simp only [Act.put, n1, n2, n3, n4, n5, n6]
      refine tk (i := 15) (v := ?_) rfl hHeld (.inl ⟨by rfl, ?_⟩) ?_
      rotate_left
      · intro wy hSw; (try dsimp only at hSw); go_simp; (try with_reducible rfl)
      try simp only [Act.put, n1, n2, n3, n4, n5, n6]
      refine wpAnyH_ready (rs := [13]) (by kernel_rfl) (by simp) ?_
      refine AllReadyH.cons rfl (fun K hK => ?_) AllReadyH.nil
      go_simp
      refine (HE.out _ trivial).mono ?_; rintro x v ⟨rfl, hbv⟩; have H1 : Hid (LW w v (fabO (some ⟨b, off, none⟩) rl rc ea el ec ta tl tc now) (w.heap.size + 1) ⟨cap, first, ra', rl', rc', ca', cl', cc', recs, curs⟩ ta tl ts) := H1.out.under hbv; clear hbv
      go_wp2_with fail
      refine hK.out _ _ ?_ (fun hHeld => ?_)
      · exact ⟨fun o => fb_cell H1.out.box o, fun o => fb_cell H1.out.fb.box o⟩
      clear hK K
      try simp only [Act.put, n1, n2, n3, n4, n5, n6]
      refine wpAnyH_ready (rs := [16]) (by kernel_rfl) (by simp) ?_
      refine AllReadyH.cons rfl (fun K hK => ?_) AllReadyH.nil
      go_simp
      refine (HO.out _ H1.out.txs).mono ?_; rintro x v ⟨rfl, hbv⟩; have H1 : Hid (LW w v (fabO (some ⟨b, off, none⟩) rl rc ea el ec ta tl tc now) (w.heap.size + 1) ⟨cap, first, ra', rl', rc', ca', cl', cc', recs, curs⟩ ta tl ts) := H1.out.under hbv; clear hbv
      go_wp2_with fail
      refine hK.out _ _ ?_ (fun hHeld => ?_)
      · exact ⟨fun o => fb_cell H1.out.box o, fun o => fb_cell H1.out.fb.box o⟩
      clear hK K
      try simp only [Act.put, n1, n2, n3, n4, n5, n6]
      refine tk (i := 17) (v := ?_) rfl hHeld (.inl ⟨by rfl, ?_⟩) ?_
      rotate_left
      · intro wy hSw; (try dsimp only at hSw); go_simp; (try with_reducible rfl)
      try simp only [Act.put, n1, n2, n3, n4, n5, n6]
      refine tk (i := 18) (v := ?_) rfl hHeld (.inl ⟨by rfl, ?_⟩) ?_
      rotate_left
      · intro wy hSw; (try dsimp only at hSw); go_simp; (try with_reducible rfl)
      try simp only [Act.put, n1, n2, n3, n4, n5, n6]
      refine tk (i := 19) (v := ?_) rfl hHeld (.inl ⟨by rfl, ?_⟩) ?_
      rotate_left
      · intro wy hSw; (try dsimp only at hSw); go_simp; (try with_reducible rfl)
      try simp only [Act.put, n1, n2, n3, n4, n5, n6]
      refine wpAnyH_done (by kernel_rfl) ?_ _
      go_wp2_with fail
      go_meet
      exact ⟨rfl, H1⟩
    case rest =>
    obtain ⟨rfl, H2⟩ := hcut
    clear H1 HM hw1 hBd HR HO
    have ct := fun o => fb_cell H2.out.box o
    have cf := fun o => fb_cell H2.out.fb.box o
    go_wp2_with fail
    clear ct cf
    go_loopw [6] (fun i wr => ∃ (j : Nat) (y : Int), j ≤ rl' ∧ i = .int .i64 y ∧ Hid (y = first + (j : Int)) ∧ Hid (recTo ts (k : Int) recs j) ∧ Hid (LW w wr (fabO (some ⟨b, off, none⟩) rl rc ea el ec ta tl tc now) (w.heap.size + 1) ⟨cap, first, ra', rl', rc', ca', cl', cc', recs, curs⟩ ta tl ts)) (fun i _ => (first + (rl' : Int) - intOf i).toNat)
    case atStart => exact ⟨0, first, by omega, rfl, show _ = _ by simp, fun i hi => by omega, H2.out⟩
    case round =>
      obtain ⟨j, y, hj, rfl, hy, hto, hw⟩ := hrel
      clear H2
      have ct := fun o => fb_cell hw.out.box o
      have cf := fun o => fb_cell hw.out.fb.box o
      go_wp2_with fail
      refine (HE.out _ trivial).mono ?_
      rintro x v ⟨rfl, hbv⟩
      have H3 : Hid (LW w v (fabO (some ⟨b, off, none⟩) rl rc ea el ec ta tl tc now) (w.heap.size + 1) ⟨cap, first, ra', rl', rc', ca', cl', cc', recs, curs⟩ ta tl ts) := hw.out.under hbv
      clear hbv ct cf hw
      have ct := fun o => fb_cell H3.out.box o
      have cf := fun o => fb_cell H3.out.fb.box o
      by_cases hlt : j < rl'
      · have hjr : j < recs.length := by omega
        obtain ⟨hn1, hn2, hra⟩ := rec_num HRR.out hjr
        have HF : Hid (recFitB ts (k : Int) recs[j] = numFitB ts (k : Int) (recAt recs j).2.1) := show _ = _ by rw [recFitB, hra]
        have HA : Hid (∀ w, RFit w ra' rl' rc' ca' cl' cc' recs curs → _) := fun w h => spec_lat (cap := cap) (first := first) (ca := ca') (cl := cl') (cc := cc') recs j w h.str (fun s hs => by have := h.sz s hs; unfold maxLen; omega) hlt hrl'
        obtain ⟨n1, hk1⟩ : ∃ x, (recAt recs j).1 = x := ⟨_, rfl⟩
        obtain ⟨n2, hk2⟩ : ∃ x, (recAt recs j).2.1 = x := ⟨_, rfl⟩
        obtain ⟨n3, hk3⟩ : ∃ x, (recAt recs j).2.2.1 = x := ⟨_, rfl⟩
        rw [hk1, hk2, hk3] at HA
        rw [hk2] at HF hn1 hn2
        have HTN : Hid (recFitB ts (k : Int) recs[j] = true → recTo ts (k : Int) recs (j + 1)) := fun h => recTo_succ hto.out hjr h
        have HTF : Hid (recFitB ts (k : Int) recs[j] = false → ringFitB ts (k : Int) ⟨cap, first, ra', rl', rc', ca', cl', cc', recs, curs⟩ = false) := fun h => rfit_no4 (recTo_no hjr h)
        rw [HF.out] at HTN HTF
        clear hk1 hk2 hk3 hra HF hto hjr
        have hji : y < first + (rl' : Int) := by have := hy.out; omega
        have hfd := fun w => field_rec1 n1 n2 n3 w
        have hwj : IntKind.i64.wrap (y + 1) = y + 1 := by have := hy.out; exact twrap_in _ (by omega) (by omega)
        rw [← hy.out] at HA
        have hyn : Hid (y + 1 = first + ((j + 1 : Nat) : Int)) := show _ = _ by have := hy.out; omega
        go_wp2_with fail
        refine (HA.out _ H3.out.fit).mono ?_
        rintro x v2 ⟨rfl, hbv⟩
        have H4 : Hid (LW w v2 (fabO (some ⟨b, off, none⟩) rl rc ea el ec ta tl tc now) (w.heap.size + 1) ⟨cap, first, ra', rl', rc', ca', cl', cc', recs, curs⟩ ta tl ts) := H3.out.under hbv
        clear hbv ct cf H3
        have ct := fun o => fb_cell H4.out.box o
        have cf := fun o => fb_cell H4.out.fb.box o
        by_cases hnt : n2 ≤ (tl : Int)
        · have hnt' : ¬ ((tl : Int) < n2) := by omega
          obtain ⟨M, hM⟩ : ∃ M : Nat, n2 = (M : Int) + 1 := ⟨(n2 - 1).toNat, by omega⟩
          subst hM
          have hMt : M < tl := by omega
          obtain ⟨b4, off4, t, hta, et, _, _, _, _, g4, _, hf⟩ := txsG_at keeps_tfit H4.out.txs (Below.refl _ _) hMt
          subst hta
          have hNF : numFitB ts (k : Int) ((M : Int) + 1) = hasB t.rs (k : Int) := numFit_at (by omega) et
          rw [hNF] at HTN HTF
          have hWM : IntKind.i64.wrap (M : Int) = (M : Int) := twrap_in _ (by omega) (by omega)
          have hMi : (M : Int) < (tl : Int) := by omega
          clear hNF et
          go_wp2_with fail
          refine (spec_has t.ra t.rl t.rc t.rs (k : Int) _ hf.out.r.nums hf.out.rle).mono ?_
          rintro x v3 ⟨rfl, hv3⟩
          rw [hv3]
          clear hv3 v3
          cases hh : hasB t.rs (k : Int) with
          | true =>
            have HN : Hid _ := HTN.out hh
            have HY : Hid (y + 1 ≤ first + (rl' : Int)) := show _ ≤ _ by have := hy.out; omega
            clear hh hnt' hMi hWM hf g4 hn1 hn2 hnt hF hC hEd hG hG' HTN HTF ct cf HA HE hfd hrl' htl hNl hj
            go_wp2
            exact ⟨⟨j + 1, y + 1, by omega, by go_num, hyn.out, HN.out, H4.out⟩, by simp [intOf]; have := HY.out; omega⟩
          | false =>
            have HN : Hid _ := HTF.out hh
            go_wp2
            go_ret
            exact ⟨ret_bool HN.out.symm, H4.out.fb.bel⟩
        · have hnt' : (tl : Int) < n2 := by omega
          have HN : Hid (ringFitB ts (k : Int) ⟨cap, first, ra', rl', rc', ca', cl', cc', recs, curs⟩ = false) := HTF.out (numFit_no (by have := HL.out; omega))
          go_wp2
          go_ret
          exact ⟨ret_bool HN.out.symm, H4.out.fb.bel⟩
      · have hE : Hid (ringFitB ts (k : Int) ⟨cap, first, ra', rl', rc', ca', cl', cc', recs, curs⟩ = true) := rfit_yes HRR.out (show ¬ cap - (recs.length : Int) < _ by rw [HNN.out, hlen]; have := hBB.out; omega) (show first + (recs.length : Int) + _ ≤ 1000000 by rw [HNN.out, hlen]; exact hG) (recTo_all (show recs.length ≤ j by omega) hto.out)
        have hji : decide (y < first + (rl' : Int)) = false := decide_eq_false (by have := hy.out; omega)
        go_wp2
        go_ret
        exact ⟨ret_bool hE.out.symm, H3.out.fb.bel⟩
end Go.Proofs.YtahccighonddaaaGreatDoor
namespace Go.Proofs.YtahccighonddaaaGreatDoor
open Go.RowKit
attribute [local go_sem ↓] Go.wp_at_zero Go.wp_at_succ
variable {B : Nat} {ta : Option Addr} {tl tc M : Nat} {ra : Option Addr} {rl rc : Nat} {ea : Option Addr} {el ec : Nat} {now began puts : Int}
def endSum (rs : List RD) : Int := (rs.map fun r => r.first + (r.rl : Int)).sum
theorem endSum_succ {rs : List RD} {k : Nat} {r : RD} (h : rs[k]? = some r) : endSum (rs.take (k + 1)) = endSum (rs.take k) + (r.first + (r.rl : Int)) := by
  obtain ⟨hj, e⟩ := List.getElem?_eq_some_iff.1 h
  rw [List.take_succ_eq_append_getElem hj, e]
  simp [endSum]
set_option maxHeartbeats 2000000 in
theorem impl_sumOfEnds (rs : List RD) (w : World) (hb : w.heap[B]? = some (workO ta tl tc M ra rl rc ea el ec now began puts)) (hr : Rngs w ra rl rs) (hrl : rl ≤ 4) (hF : ∀ r ∈ rs, 0 ≤ r.first ∧ r.first ≤ 1000000) :
    Calls Tryz.prog 136 #[.pointer (some ⟨B, 0, none⟩)] w fun x w' => x = .returned (.int .i64 (endSum rs)) ∧ Below w.heap.size w w' := by
  have cf := fun o => fb_cell hb o
  have HR : Hid (Rngs w ra rl rs) := hr
  have HL : Hid (rs.length = rl) := hr.1
  have HF : Hid (∀ r ∈ rs, 0 ≤ r.first ∧ r.first ≤ 1000000) := hF
  clear hb hr hF
  go_enter Tryz.func136, Tryz.ntmps136
  go_wp2
  clear cf
  go_loopw [3, 11] (fun n i wr => ∃ (k : Nat) (x : Int), k ≤ rl ∧ (0 ≤ x ∧ x ≤ k * 2048576) ∧ i = .int .i64 k ∧ n = .int .i64 x ∧ Hid (x = endSum (rs.take k)) ∧ Hid (Below w.heap.size w wr)) (fun _ i _ => rl - (intOf i).toNat)
  case atStart => exact ⟨0, 0, by omega, by omega, rfl, rfl, show _ = _ by simp [endSum], Below.refl _ _⟩
  case round =>
    obtain ⟨k, x, hk, hx, rfl, rfl, hn, hw⟩ := hrel
    by_cases hlt : k < rl
    · obtain ⟨b, off, r, rfl, e1, g0, g1, g2, g3, hf⟩ := rngsG_at keeps_fit HR.out hw.out hlt
      have hle : r.rl ≤ 1048576 := hf.out.rle
      have hfr := HF.out r (List.mem_of_getElem? e1)
      have HN : Hid (x + (r.first + (r.rl : Int)) = endSum (rs.take (k + 1))) := show _ = _ by rw [endSum_succ e1, ← hn.out]
      have HW : Hid (Below w.heap.size w (wr.alloc r.obj)) := below_tr hw.out (fbelow_new _ _)
      clear e1 hn hf hw
      have hwr : IntKind.i64.wrap (x + (r.first + (r.rl : Int))) = x + (r.first + (r.rl : Int)) := twrap_in _ (by omega) (by omega)
      go_wp2_with fail
      refine (impl_atWork (cap := r.cap) (first := r.first) (ra := r.ra) (rl := r.rl) (rc := r.rc) (ca := r.ca) (cl := r.cl) (cc := r.cc) _).mono ?_
      rintro e v ⟨rfl, hbv, hwk, hsz⟩
      have HW1 : Hid (Below w.heap.size w v) := below_tr HW.out hbv
      obtain ⟨X, hX⟩ : ∃ X, (wr.alloc r.obj).heap.size + 1 = X := ⟨_, rfl⟩
      have HK : Hid (Work v X r.cap r.first r.ra r.rl r.rc r.ca r.cl r.cc 0 0 0) := hX ▸ hwk
      rw [hX]
      clear hX hbv hwk hsz HW g0 g1 g2 g3
      go_wp2_with fail
      refine (impl_end X 0 0 0 v HK.out hfr hle).mono ?_
      rintro e v2 ⟨rfl, hb2⟩
      have HW2 : Hid (Below w.heap.size w v2) := below_tr HW1.out hb2
      clear hb2 HK HW1
      go_wp2
      exact ⟨⟨k + 1, x + (r.first + (r.rl : Int)), by omega, by omega, by go_num, by go_num, HN.out, HW2.out⟩, by simp [intOf]; omega⟩
    · have hE : Hid (x = endSum rs) := by
        have h := hn.out
        rw [List.take_of_length_le (by rw [HL.out]; omega)] at h
        exact h
      go_wp2
      go_ret
      exact ⟨ret_int (by rw [hE.out]), hw.out⟩
end Go.Proofs.YtahccighonddaaaGreatDoor
namespace Go.Proofs.YtahccighonddaaaGreatDoor
open Go.RowKit
attribute [local go_sem ↓] Go.wp_at_zero Go.wp_at_succ
set_option linter.unusedSimpArgs false
theorem info_boolF : (Tryz.prog.info? 4).map (fun i => (i.zero, i.size, i.bytes)) = some (some (.bool false), 1, 1) := by kernel_rfl
structure OW (w wr : World) (o : Obj) (ts : List TD) (j : Nat) : Prop where
  fb : FB w wr o
  own : wr.ownsRow (w.heap.size + 1) 4 1 (.slice (some ⟨w.heap.size + 1, 0, none⟩) 5 5) 5 ((openL ts j).map Value.bool)
theorem OW.under {w u v : World} {o : Obj} {ts : List TD} {j : Nat} (h : OW w u o ts j) (hb : Below u.heap.size u v) : OW w v o ts j :=
  ⟨h.fb.under hb, h.own.kept (tbelow_grown hb) (by simp [Value.ownBlock])⟩
theorem OW.set {w u : World} {o : Obj} {ts : List TD} {j : Nat} {t : TD} (h : OW w u o ts j) (hj : ts[j]? = some t) (hs : t.s = 1) {P : Nat} (hP : t.p = (P : Int) + 1) (hP4 : P < 4) : OW w (u.setCell ⟨w.heap.size + 1, P + 1, none⟩ (.bool true)) o ts (j + 1) := by
  refine ⟨⟨(Below.heap_setCell u ⟨w.heap.size + 1, P + 1, none⟩ (.bool true) w.heap.size (by simp)).trans h.fb.box, h.fb.bel.setCell (p := ⟨w.heap.size + 1, P + 1, none⟩) (Nat.le_succ _) _⟩, ?_⟩
  have h1 := (h.own.stored (P + 1) (.bool true)).1
  rw [show ((openL ts j).map Value.bool).set (P + 1) (.bool true) = (openL ts (j + 1)).map Value.bool by
    rw [← openL_set hj hs (by omega), show t.p.toNat = P + 1 by omega, List.map_set]] at h1
  exact h1
theorem OW.skip {w u : World} {o : Obj} {ts : List TD} {j : Nat} {t : TD} (h : OW w u o ts j) (hj : ts[j]? = some t) (hs : t.s ≠ 1) : OW w u o ts (j + 1) := ⟨h.fb, by rw [openL_not hj hs]; exact h.own⟩
theorem ow_cell {w u : World} {o : Obj} {ts : List TD} {j : Nat} (h : OW w u o ts j) (P : Nat) (hP : P < 4) : u.cell? ⟨w.heap.size + 1, P + 1, none⟩ = some (.bool (openAt ts j ((P : Int) + 1))) := by
  rw [h.own.cellAt (P + 1) (by omega), List.getElem?_map, openL_at _ _ _ (by omega)]
  simp
structure TW (w v : World) (o : Obj) (ts : List TD) (j X : Nat) (t : TD) (ea : Option Addr) (es : List Int) : Prop where
  ow : OW w v o ts j
  box : v.heap[X]? = some t.obj
  fit : TFit v t
  eps : Nums v ea 4 es
theorem TW.under {w u v : World} {o : Obj} {ts : List TD} {j X : Nat} {t : TD} {ea : Option Addr} {es : List Int} (h : TW w u o ts j X t ea es) (hb : Below u.heap.size u v) : TW w v o ts j X t ea es :=
  ⟨h.ow.under hb, (hb.block _ (fb_lt h.box)).trans h.box, h.fit.below hb, nums_below h.eps hb⟩
theorem TW.draws {w u : World} {o : Obj} {ts : List TD} {j X : Nat} {t : TD} {ea : Option Addr} {es : List Int} (h : TW w u o ts j X t ea es) (n : Nat) : TW w (u.drewN n) o ts j X t ea es := h.under (tbelow_dn (Below.refl _ _) n)
theorem tfit_no1 {es : List Int} {n : Nat} {now : Int} {t : TD} (h : txnRightB t.p t.e t.s t.u t.rs t.ls = false) : txnFitB es n now t = false := by simp [txnFitB, h]
theorem tfit_no2 {es : List Int} {n : Nat} {now V : Int} {t : TD} (hV : epochAt es t.p = V) (h : V < t.e) : txnFitB es n now t = false := by
  have : ¬ t.e ≤ epochAt es t.p := by omega
  simp [txnFitB, this]
theorem tfit_no3 {es : List Int} {n : Nat} {now : Int} {t : TD} (h : ringsIn n t.rs = false) : txnFitB es n now t = false := by simp [txnFitB, h]
theorem tfit_no4 {es : List Int} {n : Nat} {now V : Int} {t : TD} (hV : epochAt es t.p = V) (hs : t.s = 1) (h : ¬ t.e = V) : txnFitB es n now t = false := by
  rw [← hV] at h
  simp [txnFitB, hs, h]
theorem tfit_no5 {es : List Int} {n : Nat} {now : Int} {t : TD} (hs : t.s = 1) (h : ¬ now < t.u) : txnFitB es n now t = false := by
  simp [txnFitB, hs, h]
theorem tfit_yes {es : List Int} {n : Nat} {now V : Int} {t : TD} (hV : epochAt es t.p = V) (h1 : txnRightB t.p t.e t.s t.u t.rs t.ls = true) (h2 : t.e ≤ V) (h3 : ringsIn n t.rs = true) (h4 : t.s = 1 → t.e = V ∧ now < t.u) : txnFitB es n now t = true := by
  rw [← hV] at h2 h4
  simp [txnFitB, h1, h2, h3]
  by_cases hs : t.s = 1
  · exact .inr (h4 hs)
  · exact .inl hs
set_option maxRecDepth 100000 in
set_option maxHeartbeats 8000000 in
theorem spec_ltxns (ra : Option Addr) (rl rc : Nat) (ea : Option Addr) (ec : Nat) (ta : Option Addr) (tl tc : Nat) (now : Int) (es : List Int) (ts : List TD) (w : World) (hT : Txs w ta tl ts) (hE : Nums w ea 4 es) (htl : tl ≤ 1048576) (_hrl : rl ≤ 1048576) :
    Calls Tryz.prog 124 #[fabVal ra rl rc ea 4 ec ta tl tc now] w fun e w' => e = .returned (.bool (txnsFitB es rl now ts)) ∧ Below w.heap.size w w' := by
  obtain ⟨i0, hi0, hz0, hz1, hz2⟩ := info_parts info_boolF
  have HT : Hid (Txs w ta tl ts) := hT
  have HL : Hid (ts.length = tl) := hT.1
  have HE : Hid (Nums w ea 4 es) := hE
  clear hT hE
  have HF : Hid (FB w (w.alloc (fabO ra rl rc ea 4 ec ta tl tc now)) (fabO ra rl rc ea 4 ec ta tl tc now)) := fb_new _ _ _
  go_enter Tryz.func124, Tryz.ntmps124
  go_wp2_with (at_make; refine wpList_make_full _ rfl _ _ 216 rfl (w.heap.size + 1) 4 i0 _ 1 Tryz.underlying216 hi0 hz0 hz1 _ _ _ _ 5 rfl rfl rfl rfl (by rw [hz2]; omega) (by unfold maxLen; omega) (by simp) ?_; intro w1 ho1 hg1)
  have HO : Hid (OW w w1 (fabO ra rl rc ea 4 ec ta tl tc now) ts 0) := ⟨HF.out.under (below_of_grown hg1), by rw [openL_zero]; rw [show (madeCells (Value.cells (.bool false)) (5 * 1)).toList = [Value.bool false, Value.bool false, Value.bool false, Value.bool false, Value.bool false] from by kernel_rfl] at ho1; simp only [World.size_alloc] at ho1; exact ho1⟩
  clear ho1 hg1 HF
  go_loopw [4] (fun i wr => ∃ j : Nat, j ≤ tl ∧ i = .int .i64 j ∧ Hid (txnTo es rl now ts j) ∧ Hid (openTo ts j) ∧ Hid (OW w wr (fabO ra rl rc ea 4 ec ta tl tc now) ts j)) (fun i _ => tl - (intOf i).toNat)
  case atStart => exact ⟨0, by omega, rfl, fun j hj => by omega, fun i j _ hj => by omega, HO.out⟩
  case round =>
    obtain ⟨j, hj, rfl, hto, hop, hw⟩ := hrel
    clear HO
    have hB := fun o => fb_cell hw.out.fb.box o
    by_cases hlt : j < tl
    · obtain ⟨b, off, t, rfl, e1, g0, g1, g2, g3, g4, g5, hf⟩ := txsG_at keeps_tfit HT.out hw.out.fb.bel hlt
      have HJ : Hid (ts[j]? = some t) := e1
      have H0 : Hid (TW w (wr.alloc t.obj) (fabO ra rl rc ea 4 ec (some ⟨b, off, none⟩) tl tc now) ts j wr.heap.size t ea es) := ⟨hw.out.under (fbelow_new _ _), heap_alloc_new _ _, hf.out.below (fbelow_new _ _), nums_below HE.out (below_tr hw.out.fb.bel (fbelow_new _ _))⟩
      clear hf hw e1
      obtain ⟨p, e, s, u, ra', rl', rc', la', ll', lc', rs', ls'⟩ := t
      simp only at g0 g1 g2 g3 g4 g5
      have HR : Hid _ := fun w h => spec_txnRight (p := p) (e := e) (s := s) (u := u) (ra := ra') (rl := rl') (rc := rc') (la := la') (ll := ll') (lc := lc') rs' ls' w h
      have hRB := fun h => txnRight_bnd (p := p) (e := e) (s := s) (u := u) (rs := rs') (ls := ls') h
      obtain ⟨R, hR⟩ : ∃ R, txnRightB p e s u rs' ls' = R := ⟨_, rfl⟩
      rw [hR] at HR hRB
      go_upto_region 6 with fail
      obtain ⟨W, hW⟩ : ∃ W, wr.alloc (txnObj p e s u ra' rl' rc' la' ll' lc') = W := ⟨_, rfl⟩
      obtain ⟨X, hX⟩ : ∃ X, wr.heap.size = X := ⟨_, rfl⟩
      have H0' : Hid (TW w W (fabO ra rl rc ea 4 ec (some ⟨b, off, none⟩) tl tc now) ts j X ⟨p, e, s, u, ra', rl', rc', la', ll', lc', rs', ls'⟩ ea es) := by rw [← hW, ← hX]; exact H0.out
      rw [hW, hX]
      clear hW H0 hX hB
      replace H0 := H0'
      clear H0'
      cases R with
      | false =>
        have hE : Hid (txnsFitB es rl now ts = false) := fits_no HJ.out (tfit_no1 hR)
        clear hR hRB hto hop
        refine wp_region_held_drew (S := (fun x => (∀ o, x.cell? ⟨X, o, none⟩ = (#[.int .i64 p, .int .i64 e, .int .i64 s, .int .i64 u, .slice ra' rl' rc', .slice la' ll' lc'] : Array Value)[o]?) ∧ (∀ o, x.cell? ⟨w.heap.size, o, none⟩ = (#[.slice ra rl rc, .slice ea 4 ec, .slice (some ⟨b, off, none⟩) tl tc, .int .i64 now] : Array Value)[o]?))) (by kernel_rfl) (⟨fun o => fb_cell (H0.out.under ((Below.refl _ _).drew)).box o, fun o => fb_cell (H0.out.under ((Below.refl _ _).drew)).ow.fb.box o⟩) (fun hHeld => ?_)
        refine tk (i := 0) (v := ?_) rfl hHeld (.inl ⟨by rfl, ?_⟩) ?_
        rotate_left
        · intro wy hSw; (try dsimp only at hSw); go_simp; (try with_reducible rfl)
        try simp only [Act.put, n1, n2, n3, n4, n5, n6]
        refine wpAnyH_ready (rs := [1]) (by kernel_rfl) (by simp) ?_
        refine AllReadyH.cons rfl (fun K hK => ?_) AllReadyH.nil
        go_simp
        refine (HR.out _ (H0.out.fit.tin.below ((Below.refl _ _).drew))).mono ?_; rintro x v ⟨rfl, hbv⟩; have H1 : Hid (TW w v (fabO ra rl rc ea 4 ec (some ⟨b, off, none⟩) tl tc now) ts j X ⟨p, e, s, u, ra', rl', rc', la', ll', lc', rs', ls'⟩ ea es) := H0.out.under (below_tr ((Below.refl _ _).drew) hbv); clear hbv
        go_wp2_with fail
        refine hK.out _ _ ?_ (fun hHeld => ?_)
        · exact ⟨fun o => fb_cell H1.out.box o, fun o => fb_cell H1.out.ow.fb.box o⟩
        clear hK K
        try simp only [Act.put, n1, n2, n3, n4, n5, n6]
        refine tk (i := 2) (v := ?_) rfl hHeld (.inl ⟨by rfl, ?_⟩) ?_
        rotate_left
        · intro wy hSw; (try dsimp only at hSw); go_simp; (try with_reducible rfl)
        try simp only [Act.put, n1, n2, n3, n4, n5, n6]
        refine tk (i := 3) (v := ?_) rfl hHeld (.inl ⟨by rfl, ?_⟩) ?_
        rotate_left
        · intro wy hSw; (try dsimp only at hSw); go_simp; (try with_reducible rfl)
        try simp only [Act.put, n1, n2, n3, n4, n5, n6]
        refine tk (i := 4) (v := undef) rfl hHeld (.inr ⟨by rfl, rfl⟩) ?_
        try simp only [Act.put, n1, n2, n3, n4, n5, n6]
        refine tk (i := 5) (v := undef) rfl hHeld (.inr ⟨by rfl, rfl⟩) ?_
        try simp only [Act.put, n1, n2, n3, n4, n5, n6]
        refine tk (i := 6) (v := undef) rfl hHeld (.inr ⟨by rfl, rfl⟩) ?_
        try simp only [Act.put, n1, n2, n3, n4, n5, n6]
        refine tk (i := 7) (v := undef) rfl hHeld (.inr ⟨by rfl, rfl⟩) ?_
        try simp only [Act.put, n1, n2, n3, n4, n5, n6]
        refine tk (i := 8) (v := undef) rfl hHeld (.inr ⟨by rfl, rfl⟩) ?_
        try simp only [Act.put, n1, n2, n3, n4, n5, n6]
        refine tk (i := 9) (v := undef) rfl hHeld (.inr ⟨by rfl, rfl⟩) ?_
        try simp only [Act.put, n1, n2, n3, n4, n5, n6]
        refine tk (i := 10) (v := undef) rfl hHeld (.inr ⟨by rfl, rfl⟩) ?_
        try simp only [Act.put, n1, n2, n3, n4, n5, n6]
        refine tk (i := 11) (v := undef) rfl hHeld (.inr ⟨by rfl, rfl⟩) ?_
        try simp only [Act.put, n1, n2, n3, n4, n5, n6]
        refine tk (i := 12) (v := undef) rfl hHeld (.inr ⟨by rfl, rfl⟩) ?_
        try simp only [Act.put, n1, n2, n3, n4, n5, n6]
        refine tk (i := 13) (v := undef) rfl hHeld (.inr ⟨by rfl, rfl⟩) ?_
        try simp only [Act.put, n1, n2, n3, n4, n5, n6]
        refine tk (i := 14) (v := ?_) rfl hHeld (.inl ⟨by rfl, ?_⟩) ?_
        rotate_left
        · intro wy hSw; (try dsimp only at hSw); go_simp; (try with_reducible rfl)
        try simp only [Act.put, n1, n2, n3, n4, n5, n6]
        refine wpAnyH_done (by kernel_rfl) ?_ _
        go_wp2
        go_ret
        exact ⟨ret_bool hE.out.symm, H1.out.ow.fb.bel⟩
      | true =>
        have hbn := hRB rfl
        clear hRB
        obtain ⟨P, hP⟩ : ∃ P : Nat, p = (P : Int) + 1 := ⟨(p - 1).toNat, by omega⟩
        subst hP
        have hP4 : P < 4 := by omega
        have HRB : Hid (ringsB rs' = true) := hbn.2.2.2.2.1
        have hR1 : Hid (txnRightB ((P : Int) + 1) e s u rs' ls' = true) := hR
        clear hbn hR
        obtain ⟨b2, off2, V, rfl, hV, cV⟩ := nums_at H0.out.eps (Below.refl _ _) (k := P) hP4
        have hEV : Hid (epochAt es ((P : Int) + 1) = V) := epoch_at (by omega) hV
        clear hV
        have hW1 : IntKind.i64.wrap (P : Int) = (P : Int) := twrap_in _ (by omega) (by omega)
        have hPI : (P : Int) < 4 := by omega
        by_cases hVe : V < e
        · have hE : Hid (txnsFitB es rl now ts = false) := fits_no HJ.out (tfit_no2 hEV.out hVe)
          clear hto hop
          refine wp_region_held_drew (S := (fun x => (∀ o, x.cell? ⟨X, o, none⟩ = (#[.int .i64 ((P : Int) + 1), .int .i64 e, .int .i64 s, .int .i64 u, .slice ra' rl' rc', .slice la' ll' lc'] : Array Value)[o]?) ∧ (∀ o, x.cell? ⟨w.heap.size, o, none⟩ = (#[.slice ra rl rc, .slice (some ⟨b2, off2, none⟩) 4 ec, .slice (some ⟨b, off, none⟩) tl tc, .int .i64 now] : Array Value)[o]?) ∧ x.cell? ⟨b2, off2 + P, none⟩ = some (.int .i64 V))) (by kernel_rfl) (⟨fun o => fb_cell (H0.out.under ((Below.refl _ _).drew)).box o, fun o => fb_cell (H0.out.under ((Below.refl _ _).drew)).ow.fb.box o, cell_below cV ((Below.refl _ _).drew)⟩) (fun hHeld => ?_)
          refine tk (i := 0) (v := ?_) rfl hHeld (.inl ⟨by rfl, ?_⟩) ?_
          rotate_left
          · intro wy hSw; (try dsimp only at hSw); go_simp; (try with_reducible rfl)
          try simp only [Act.put, n1, n2, n3, n4, n5, n6]
          refine wpAnyH_ready (rs := [1]) (by kernel_rfl) (by simp) ?_
          refine AllReadyH.cons rfl (fun K hK => ?_) AllReadyH.nil
          go_simp
          refine (HR.out _ (H0.out.fit.tin.below ((Below.refl _ _).drew))).mono ?_; rintro x v ⟨rfl, hbv⟩; have H1 : Hid (TW w v (fabO ra rl rc (some ⟨b2, off2, none⟩) 4 ec (some ⟨b, off, none⟩) tl tc now) ts j X ⟨(P : Int) + 1, e, s, u, ra', rl', rc', la', ll', lc', rs', ls'⟩ (some ⟨b2, off2, none⟩) es) := H0.out.under (below_tr ((Below.refl _ _).drew) hbv); have cW := cell_below cV (below_tr ((Below.refl _ _).drew) hbv); clear hbv
          go_wp2_with fail
          refine hK.out _ _ ?_ (fun hHeld => ?_)
          · exact ⟨fun o => fb_cell H1.out.box o, fun o => fb_cell H1.out.ow.fb.box o, cW⟩
          clear hK K
          try simp only [Act.put, n1, n2, n3, n4, n5, n6]
          refine tk (i := 2) (v := ?_) rfl hHeld (.inl ⟨by rfl, ?_⟩) ?_
          rotate_left
          · intro wy hSw; (try dsimp only at hSw); go_simp; (try with_reducible rfl)
          try simp only [Act.put, n1, n2, n3, n4, n5, n6]
          refine tk (i := 3) (v := ?_) rfl hHeld (.inl ⟨by rfl, ?_⟩) ?_
          rotate_left
          · intro wy hSw; (try dsimp only at hSw); go_simp; (try with_reducible rfl)
          try simp only [Act.put, n1, n2, n3, n4, n5, n6]
          refine tk (i := 4) (v := ?_) rfl hHeld (.inl ⟨by rfl, ?_⟩) ?_
          rotate_left
          · intro wy hSw; (try dsimp only at hSw); go_simp; (try with_reducible rfl)
          try simp only [Act.put, n1, n2, n3, n4, n5, n6]
          refine tk (i := 5) (v := ?_) rfl hHeld (.inl ⟨by rfl, ?_⟩) ?_
          rotate_left
          · intro wy hSw; (try dsimp only at hSw); go_simp; (try with_reducible rfl)
          try simp only [Act.put, n1, n2, n3, n4, n5, n6]
          refine tk (i := 6) (v := ?_) rfl hHeld (.inl ⟨by rfl, ?_⟩) ?_
          rotate_left
          · intro wy hSw; (try dsimp only at hSw); go_simp; (try with_reducible rfl)
          try simp only [Act.put, n1, n2, n3, n4, n5, n6]
          refine tk (i := 7) (v := ?_) rfl hHeld (.inl ⟨by rfl, ?_⟩) ?_
          rotate_left
          · intro wy hSw; (try dsimp only at hSw); go_simp; (try with_reducible rfl)
          try simp only [Act.put, n1, n2, n3, n4, n5, n6]
          refine tk (i := 8) (v := ?_) rfl hHeld (.inl ⟨by rfl, ?_⟩) ?_
          rotate_left
          · intro wy hSw; (try dsimp only at hSw); go_simp; (try with_reducible rfl)
          try simp only [Act.put, n1, n2, n3, n4, n5, n6]
          refine tk (i := 9) (v := ?_) rfl hHeld (.inl ⟨by rfl, ?_⟩) ?_
          rotate_left
          · intro wy hSw; (try dsimp only at hSw); go_simp; (try with_reducible rfl)
          try simp only [Act.put, n1, n2, n3, n4, n5, n6]
          refine tk (i := 10) (v := ?_) rfl hHeld (.inl ⟨by rfl, ?_⟩) ?_
          rotate_left
          · intro wy hSw; (try dsimp only at hSw); go_simp; (try with_reducible rfl)
          try simp only [Act.put, n1, n2, n3, n4, n5, n6]
          refine tk (i := 11) (v := ?_) rfl hHeld (.inl ⟨by rfl, ?_⟩) ?_
          rotate_left
          · intro wy hSw; (try dsimp only at hSw); go_simp; (try with_reducible rfl)
          try simp only [Act.put, n1, n2, n3, n4, n5, n6]
          refine tk (i := 12) (v := ?_) rfl hHeld (.inl ⟨by rfl, ?_⟩) ?_
          rotate_left
          · intro wy hSw; (try dsimp only at hSw); go_simp; (try with_reducible rfl)
          try simp only [Act.put, n1, n2, n3, n4, n5, n6]
          refine tk (i := 13) (v := ?_) rfl hHeld (.inl ⟨by rfl, ?_⟩) ?_
          rotate_left
          · intro wy hSw; (try dsimp only at hSw); go_simp; (try with_reducible rfl)
          try simp only [Act.put, n1, n2, n3, n4, n5, n6]
          refine tk (i := 14) (v := ?_) rfl hHeld (.inl ⟨by rfl, ?_⟩) ?_
          rotate_left
          · intro wy hSw; (try dsimp only at hSw); go_simp; (try with_reducible rfl)
          try simp only [Act.put, n1, n2, n3, n4, n5, n6]
          refine wpAnyH_done (by kernel_rfl) ?_ _
          go_wp2
          go_ret
          exact ⟨ret_bool hE.out.symm, H1.out.ow.fb.bel⟩
        · refine wp_region_held_drew (S := (fun x => (∀ o, x.cell? ⟨X, o, none⟩ = (#[.int .i64 ((P : Int) + 1), .int .i64 e, .int .i64 s, .int .i64 u, .slice ra' rl' rc', .slice la' ll' lc'] : Array Value)[o]?) ∧ (∀ o, x.cell? ⟨w.heap.size, o, none⟩ = (#[.slice ra rl rc, .slice (some ⟨b2, off2, none⟩) 4 ec, .slice (some ⟨b, off, none⟩) tl tc, .int .i64 now] : Array Value)[o]?) ∧ x.cell? ⟨b2, off2 + P, none⟩ = some (.int .i64 V))) (by kernel_rfl) (⟨fun o => fb_cell (H0.out.under ((Below.refl _ _).drew)).box o, fun o => fb_cell (H0.out.under ((Below.refl _ _).drew)).ow.fb.box o, cell_below cV ((Below.refl _ _).drew)⟩) (fun hHeld => ?_)
          refine tk (i := 0) (v := ?_) rfl hHeld (.inl ⟨by rfl, ?_⟩) ?_
          rotate_left
          · intro wy hSw; (try dsimp only at hSw); go_simp; (try with_reducible rfl)
          try simp only [Act.put, n1, n2, n3, n4, n5, n6]
          refine wpAnyH_ready (rs := [1]) (by kernel_rfl) (by simp) ?_
          refine AllReadyH.cons rfl (fun K hK => ?_) AllReadyH.nil
          go_simp
          refine (HR.out _ (H0.out.fit.tin.below ((Below.refl _ _).drew))).mono ?_; rintro x v ⟨rfl, hbv⟩; have H1 : Hid (TW w v (fabO ra rl rc (some ⟨b2, off2, none⟩) 4 ec (some ⟨b, off, none⟩) tl tc now) ts j X ⟨(P : Int) + 1, e, s, u, ra', rl', rc', la', ll', lc', rs', ls'⟩ (some ⟨b2, off2, none⟩) es) := H0.out.under (below_tr ((Below.refl _ _).drew) hbv); have cW := cell_below cV (below_tr ((Below.refl _ _).drew) hbv); clear hbv
          go_wp2_with fail
          refine hK.out _ _ ?_ (fun hHeld => ?_)
          · exact ⟨fun o => fb_cell H1.out.box o, fun o => fb_cell H1.out.ow.fb.box o, cW⟩
          clear hK K
          try simp only [Act.put, n1, n2, n3, n4, n5, n6]
          refine tk (i := 2) (v := ?_) rfl hHeld (.inl ⟨by rfl, ?_⟩) ?_
          rotate_left
          · intro wy hSw; (try dsimp only at hSw); go_simp; (try with_reducible rfl)
          try simp only [Act.put, n1, n2, n3, n4, n5, n6]
          refine tk (i := 3) (v := ?_) rfl hHeld (.inl ⟨by rfl, ?_⟩) ?_
          rotate_left
          · intro wy hSw; (try dsimp only at hSw); go_simp; (try with_reducible rfl)
          try simp only [Act.put, n1, n2, n3, n4, n5, n6]
          refine tk (i := 4) (v := ?_) rfl hHeld (.inl ⟨by rfl, ?_⟩) ?_
          rotate_left
          · intro wy hSw; (try dsimp only at hSw); go_simp; (try with_reducible rfl)
          try simp only [Act.put, n1, n2, n3, n4, n5, n6]
          refine tk (i := 5) (v := ?_) rfl hHeld (.inl ⟨by rfl, ?_⟩) ?_
          rotate_left
          · intro wy hSw; (try dsimp only at hSw); go_simp; (try with_reducible rfl)
          try simp only [Act.put, n1, n2, n3, n4, n5, n6]
          refine tk (i := 6) (v := ?_) rfl hHeld (.inl ⟨by rfl, ?_⟩) ?_
          rotate_left
          · intro wy hSw; (try dsimp only at hSw); go_simp; (try with_reducible rfl)
          try simp only [Act.put, n1, n2, n3, n4, n5, n6]
          refine tk (i := 7) (v := ?_) rfl hHeld (.inl ⟨by rfl, ?_⟩) ?_
          rotate_left
          · intro wy hSw; (try dsimp only at hSw); go_simp; (try with_reducible rfl)
          try simp only [Act.put, n1, n2, n3, n4, n5, n6]
          refine tk (i := 8) (v := ?_) rfl hHeld (.inl ⟨by rfl, ?_⟩) ?_
          rotate_left
          · intro wy hSw; (try dsimp only at hSw); go_simp; (try with_reducible rfl)
          try simp only [Act.put, n1, n2, n3, n4, n5, n6]
          refine tk (i := 9) (v := ?_) rfl hHeld (.inl ⟨by rfl, ?_⟩) ?_
          rotate_left
          · intro wy hSw; (try dsimp only at hSw); go_simp; (try with_reducible rfl)
          try simp only [Act.put, n1, n2, n3, n4, n5, n6]
          refine tk (i := 10) (v := ?_) rfl hHeld (.inl ⟨by rfl, ?_⟩) ?_
          rotate_left
          · intro wy hSw; (try dsimp only at hSw); go_simp; (try with_reducible rfl)
          try simp only [Act.put, n1, n2, n3, n4, n5, n6]
          refine tk (i := 11) (v := ?_) rfl hHeld (.inl ⟨by rfl, ?_⟩) ?_
          rotate_left
          · intro wy hSw; (try dsimp only at hSw); go_simp; (try with_reducible rfl)
          try simp only [Act.put, n1, n2, n3, n4, n5, n6]
          refine tk (i := 12) (v := ?_) rfl hHeld (.inl ⟨by rfl, ?_⟩) ?_
          rotate_left
          · intro wy hSw; (try dsimp only at hSw); go_simp; (try with_reducible rfl)
          try simp only [Act.put, n1, n2, n3, n4, n5, n6]
          refine tk (i := 13) (v := ?_) rfl hHeld (.inl ⟨by rfl, ?_⟩) ?_
          rotate_left
          · intro wy hSw; (try dsimp only at hSw); go_simp; (try with_reducible rfl)
          try simp only [Act.put, n1, n2, n3, n4, n5, n6]
          refine tk (i := 14) (v := ?_) rfl hHeld (.inl ⟨by rfl, ?_⟩) ?_
          rotate_left
          · intro wy hSw; (try dsimp only at hSw); go_simp; (try with_reducible rfl)
          try simp only [Act.put, n1, n2, n3, n4, n5, n6]
          refine wpAnyH_done (by kernel_rfl) ?_ _
          clear H0 cV
          have ct := fun o => fb_cell H1.out.box o
          have cf := fun o => fb_cell H1.out.ow.fb.box o
          go_upto_region 8 with fail
          go_cut [51] from 7 to 82 (fun s51 wc => s51 = .bool (!(ringsIn rl rs')) ∧ Hid (TW w wc (fabO ra rl rc (some ⟨b2, off2, none⟩) 4 ec (some ⟨b, off, none⟩) tl tc now) ts j X ⟨(P : Int) + 1, e, s, u, ra', rl', rc', la', ll', lc', rs', ls'⟩ (some ⟨b2, off2, none⟩) es))
          case first =>
            have hlen : rs'.length = rl' := H1.out.fit.r.nums.1
            cases rl' with
            | zero =>
              have hn : rs' = [] := List.length_eq_zero_iff.1 hlen
              subst hn
              go_quiet (first | (fail))
              go_wp2_with fail
              go_meet
              exact ⟨rfl, H1.out.draws _⟩
            | succ M =>
              obtain ⟨b3, off3, V3, rfl, hV3, cV3⟩ := nums_at H1.out.fit.r.nums (Below.refl _ _) (k := M) (show M < M + 1 by omega)
              have hW3 : IntKind.i64.wrap (M : Int) = (M : Int) := by have : M + 1 ≤ 1048576 := H1.out.fit.rle; exact twrap_in _ (by omega) (by omega)
              have hML : (M : Int) < ((M + 1 : Nat) : Int) := by omega
              have hI : ringsIn rl rs' = decide (V3 < (rl : Int)) := ringsIn_last (by omega) hV3 HRB.out
              by_cases h3 : V3 < (rl : Int)
              · go_quiet (first | (fail))
                go_wp2_with fail
                go_meet
                exact ⟨by rw [hI]; simp [h3], H1.out.draws _⟩
              · go_quiet (first | (fail))
                go_wp2_with fail
                go_meet
                exact ⟨by rw [hI]; simp [h3], H1.out.draws _⟩
          case rest =>
          obtain ⟨rfl, H2⟩ := hcut
          clear H1 ct cf cW
          have ct := fun o => fb_cell H2.out.box o
          have cf := fun o => fb_cell H2.out.ow.fb.box o
          cases hI : ringsIn rl rs' with
          | false =>
            have hE : Hid (txnsFitB es rl now ts = false) := fits_no HJ.out (tfit_no3 hI)
            clear hto hop hI
            go_wp2
            go_ret
            exact ⟨ret_bool hE.out.symm, H2.out.ow.fb.bel⟩
          | true =>
            have HI : Hid (ringsIn rl rs' = true) := hI
            clear hI
            by_cases hs : s = 1
            · have hsn : (s != 1) = false := by simp [hs]
              have cO := ow_cell H2.out.ow P hP4
              obtain ⟨b3, off3, V3, he3, hV3, cE⟩ := nums_at H2.out.eps (Below.refl _ _) (k := P) hP4
              have hV' : V3 = V := (epoch_at (by omega) hV3).symm.trans hEV.out
              simp only [Option.some.injEq, Addr.mk.injEq] at he3
              obtain ⟨rfl, rfl, _⟩ := he3
              subst hV'
              clear hV3
              have hP5 : (P : Int) + 1 < 5 := by omega
              cases hO : openAt ts j ((P : Int) + 1) with
              | true =>
                have hE : Hid (txnsFitB es rl now ts = false) := by obtain ⟨i, t, hi, ht, h1, h2⟩ := open_some hO; exact fits_two ht HJ.out hi h1 hs h2
                rw [hO] at cO
                clear hto hop hO
                go_upto_region 11 with fail
                go_quiet (first | (fail))
                go_wp2
                go_ret
                exact ⟨ret_bool hE.out.symm, (H2.out.draws _).ow.fb.bel⟩
              | false =>
                rw [hO] at cO
                by_cases hev : e = V3
                · have hev' : (e != V3) = false := by simp [hev]
                  by_cases hu : now < u
                  · have hT : Hid (txnTo es rl now ts (j + 1)) := txnTo_succ hto.out HJ.out (tfit_yes hEV.out hR1.out (Int.le_of_eq hev) HI.out (fun _ => ⟨hev, hu⟩))
                    have hP' : Hid (openTo ts (j + 1)) := openTo_succ hop.out HJ.out (fun _ => hO)
                    have hu' : ¬ (u ≤ now) := by omega
                    have hfz := H2.out.ow.own.frozenAt (P + 1)
                    have HS : Hid (∀ n, OW w ((wc.drewN n).setCell ⟨w.heap.size + 1, P + 1, none⟩ (.bool true)) (fabO ra rl rc (some ⟨b2, off2, none⟩) 4 ec (some ⟨b, off, none⟩) tl tc now) ts (j + 1)) := fun n => (H2.out.draws n).ow.set HJ.out hs rfl hP4
                    clear hto hop hO
                    go_upto_region 11 with fail
                    go_quiet (first | (fail))
                    go_wp2
                    exact ⟨⟨j + 1, by omega, by go_num, hT.out, hP'.out, HS.out _⟩, by simp [intOf]; omega⟩
                  · have hE : Hid (txnsFitB es rl now ts = false) := fits_no HJ.out (tfit_no5 hs hu)
                    have hu' : u ≤ now := by omega
                    clear hto hop hO
                    go_upto_region 11 with fail
                    go_quiet (first | (fail))
                    go_wp2
                    go_ret
                    exact ⟨ret_bool hE.out.symm, (H2.out.draws _).ow.fb.bel⟩
                · have hev' : (e != V3) = true := by simp [hev]
                  have hE : Hid (txnsFitB es rl now ts = false) := fits_no HJ.out (tfit_no4 hEV.out hs hev)
                  clear hto hop hO
                  go_upto_region 11 with fail
                  go_quiet (first | (fail))
                  go_wp2
                  go_ret
                  exact ⟨ret_bool hE.out.symm, (H2.out.draws _).ow.fb.bel⟩
            · have hsn : (s != 1) = true := by simp [hs]
              have hT : Hid (txnTo es rl now ts (j + 1)) := txnTo_succ hto.out HJ.out (tfit_yes hEV.out hR1.out (by omega) HI.out (fun h => absurd h hs))
              have hP' : Hid (openTo ts (j + 1)) := openTo_succ hop.out HJ.out (fun h => absurd h hs)
              have HS : Hid (OW w wc (fabO ra rl rc (some ⟨b2, off2, none⟩) 4 ec (some ⟨b, off, none⟩) tl tc now) ts (j + 1)) := H2.out.ow.skip HJ.out hs
              clear hto hop
              go_wp2
              exact ⟨⟨j + 1, by omega, by go_num, hT.out, hP'.out, HS.out⟩, by simp [intOf]; omega⟩
    · have hE : Hid (txnsFitB es rl now ts = true) := fits_yes (by rw [HL.out]; omega) hto.out hop.out
      clear hto hop
      go_wp2
      go_ret
      exact ⟨ret_bool hE.out.symm, hw.out.fb.bel⟩
end Go.Proofs.YtahccighonddaaaGreatDoor
namespace Go.Proofs.YtahccighonddaaaGreatDoor
open Go.RowKit
attribute [local go_sem ↓] Go.wp_at_zero Go.wp_at_succ
theorem fab_no1 {rs : List RD} {es : List Int} {ts : List TD} {now : Int} (h : ¬ (1 ≤ rs.length ∧ rs.length ≤ 4 ∧ es.length = 4 ∧ ts.length ≤ 12)) : fabRightB rs es ts now = false := by
  simp only [fabRightB, fabSizesB, decide_eq_false h, Bool.false_and]
theorem fab_no2 {rs : List RD} {es : List Int} {ts : List TD} {now : Int} (h : timeB now = false) : fabRightB rs es ts now = false := by
  simp only [fabRightB, h, Bool.and_false, Bool.false_and]
theorem fab_no3 {rs : List RD} {es : List Int} {ts : List TD} {now : Int} (h : es.all timeB = false) : fabRightB rs es ts now = false := by
  simp only [fabRightB, h, Bool.and_false, Bool.false_and]
theorem fab_no4 {rs : List RD} {es : List Int} {ts : List TD} {now : Int} (h : txnsFitB es rs.length now ts = false) : fabRightB rs es ts now = false := by
  simp only [fabRightB, h, Bool.and_false, Bool.false_and]
theorem fab_no5 {rs : List RD} {es : List Int} {ts : List TD} {now : Int} (h : ringsFitB ts rs = false) : fabRightB rs es ts now = false := by
  simp only [fabRightB, h, Bool.and_false]
theorem fab_yes {rs : List RD} {es : List Int} {ts : List TD} {now : Int} (h1 : 1 ≤ rs.length ∧ rs.length ≤ 4 ∧ es.length = 4 ∧ ts.length ≤ 12) (h2 : timeB now = true) (h3 : es.all timeB = true) (h4 : txnsFitB es rs.length now ts = true) (h5 : ringsFitB ts rs = true) : fabRightB rs es ts now = true := by
  simp only [fabRightB, fabSizesB, decide_eq_true h1, h2, h3, h4, h5, Bool.and_true]
theorem time_no {es : List Int} {k : Nat} (hk : k < es.length) (h : timeB es[k] = false) : es.all timeB = false := by
  rw [List.all_eq_false]
  exact ⟨es[k], List.getElem_mem hk, by simp [h]⟩
theorem time_yes {es : List Int} {k : Nat} (hk : es.length ≤ k) (h : timeTo es k) : es.all timeB = true := by
  rw [List.all_eq_true]
  intro x hx
  obtain ⟨j, hj, rfl⟩ := List.getElem_of_mem hx
  exact h j (by omega) hj
theorem timeTo_succ {es : List Int} {k : Nat} (hr : timeTo es k) (hk : k < es.length) (h : timeB es[k] = true) : timeTo es (k + 1) := fun i hi h1 => by
  by_cases hik : i = k
  · subst hik; exact h
  · exact hr i (by omega) h1
structure FX (w v : World) (o : Obj) (ra : Option Addr) (rl : Nat) (ea : Option Addr) (el : Nat) (ta : Option Addr) (tl : Nat) (rs : List RD) (es : List Int) (ts : List TD) : Prop where
  fb : FB w v o
  fin : FIn v ra rl ea el ta tl rs es ts
theorem FX.under {w u v : World} {o : Obj} {ra : Option Addr} {rl : Nat} {ea : Option Addr} {el : Nat} {ta : Option Addr} {tl : Nat} {rs : List RD} {es : List Int} {ts : List TD} (h : FX w u o ra rl ea el ta tl rs es ts) (hb : Below u.heap.size u v) : FX w v o ra rl ea el ta tl rs es ts := ⟨h.fb.under hb, h.fin.below hb⟩
set_option maxRecDepth 100000 in
set_option maxHeartbeats 8000000 in
theorem spec_fabricRight (ra : Option Addr) (rl rc : Nat) (ea : Option Addr) (el ec : Nat) (ta : Option Addr) (tl tc : Nat) (now : Int) (rs : List RD) (es : List Int) (ts : List TD) (w : World) (hi : FIn w ra rl ea el ta tl rs es ts) :
    Calls Tryz.prog 78 #[fabVal ra rl rc ea el ec ta tl tc now] w fun e w' => e = .returned (.bool (fabRightB rs es ts now)) ∧ Below w.heap.size w w' := by
  have HR : Hid (rs.length = rl) := hi.rs.1
  have HE : Hid (es.length = el) := hi.es.1
  have HT : Hid (ts.length = tl) := hi.ts.1
  have hrl := hi.rle
  have hel := hi.ele
  have htl := hi.tle
  have H0 : Hid (FX w (w.alloc (fabO ra rl rc ea el ec ta tl tc now)) (fabO ra rl rc ea el ec ta tl tc now) ra rl ea el ta tl rs es ts) := ⟨fb_new _ _ _, hi.below (fbelow_new _ _)⟩
  clear hi
  by_cases h1 : 1 ≤ rl
  case neg =>
    have hE : Hid (fabRightB rs es ts now = false) := fab_no1 (by have := HR.out; omega)
    have h1' : (rl : Int) < 1 := by omega
    go_enter Tryz.func78, Tryz.ntmps78
    go_wp2
    go_ret
    exact ⟨ret_bool hE.out.symm, H0.out.fb.bel⟩
  by_cases h2 : rl ≤ 4
  case neg =>
    have hE : Hid (fabRightB rs es ts now = false) := fab_no1 (by have := HR.out; omega)
    have h1' : decide ((rl : Int) < 1) = false := decide_eq_false (by omega)
    have h2' : decide ((4 : Int) < (rl : Int)) = true := decide_eq_true (by omega)
    go_enter Tryz.func78, Tryz.ntmps78
    go_wp2
    go_ret
    exact ⟨ret_bool hE.out.symm, H0.out.fb.bel⟩
  have h1' : decide ((rl : Int) < 1) = false := decide_eq_false (by omega)
  have h2' : decide ((4 : Int) < (rl : Int)) = false := decide_eq_false (by omega)
  by_cases h3 : el = 4
  case neg =>
    have hE : Hid (fabRightB rs es ts now = false) := fab_no1 (by have := HE.out; omega)
    have h3' : ((el : Int) != 4) = true := by simp; omega
    go_enter Tryz.func78, Tryz.ntmps78
    go_wp2
    go_ret
    exact ⟨ret_bool hE.out.symm, H0.out.fb.bel⟩
  subst h3
  by_cases h4 : tl ≤ 12
  case neg =>
    have hE : Hid (fabRightB rs es ts now = false) := fab_no1 (by have := HT.out; omega)
    have h4' : decide ((12 : Int) < (tl : Int)) = true := decide_eq_true (by omega)
    go_enter Tryz.func78, Tryz.ntmps78
    go_wp2
    go_ret
    exact ⟨ret_bool hE.out.symm, H0.out.fb.bel⟩
  have h4' : decide ((12 : Int) < (tl : Int)) = false := decide_eq_false (by omega)
  have HZ : Hid (1 ≤ rs.length ∧ rs.length ≤ 4 ∧ es.length = 4 ∧ ts.length ≤ 12) := by have a := HR.out; have b := HE.out; have c := HT.out; exact ⟨by omega, by omega, b, by omega⟩
  go_enter Tryz.func78, Tryz.ntmps78
  go_wp2_with fail
  refine (spec_time now _).mono ?_
  rintro e w1 ⟨rfl, hw1⟩
  rw [hw1]
  clear hw1 w1
  by_cases h5 : 0 ≤ now ∧ now ≤ 1000000
  case neg =>
    rw [decide_eq_false h5]
    have hE : Hid (fabRightB rs es ts now = false) := fab_no2 (decide_eq_false h5)
    clear h5
    go_wp2
    go_ret
    exact ⟨ret_bool hE.out.symm, H0.out.fb.bel⟩
  rw [decide_eq_true h5]
  have HN : Hid (timeB now = true) := decide_eq_true h5
  clear h5
  go_wp2_with fail
  go_loopw [3] (fun i wr => ∃ k : Nat, k ≤ 4 ∧ i = .int .i64 k ∧ Hid (timeTo es k) ∧ Hid (FX w wr (fabO ra rl rc ea 4 ec ta tl tc now) ra rl ea 4 ta tl rs es ts)) (fun i _ => 4 - (intOf i).toNat)
  case atStart => exact ⟨0, by omega, rfl, fun j hj => by omega, H0.out⟩
  case round =>
    obtain ⟨k, hk, rfl, hto, hw⟩ := hrel
    clear H0
    have cf := fun o => fb_cell hw.out.fb.box o
    by_cases hlt : k < 4
    · obtain ⟨b, off, hea, hkl, g0⟩ := nums_get hw.out.fin.es (Below.refl _ _) (k := k) hlt
      have hN : timeB es[k] = false → Hid (fabRightB rs es ts now = false) := fun h => fab_no3 (time_no hkl h)
      have hY : timeB es[k] = true → Hid (timeTo es (k + 1)) := fun h => timeTo_succ hto.out hkl h
      obtain ⟨V, hV⟩ : ∃ V, es[k] = V := ⟨_, rfl⟩
      rw [hV] at g0 hN hY
      clear hV hkl hto
      subst hea
      go_wp2_with fail
      refine (spec_time V _).mono ?_
      rintro e w1 ⟨rfl, hw1⟩
      rw [hw1]
      clear hw1 w1
      by_cases h5 : 0 ≤ V ∧ V ≤ 1000000
      · rw [decide_eq_true h5]
        have hE := hY (decide_eq_true h5)
        clear h5 hY hN g0
        go_wp2
        exact ⟨⟨k + 1, by omega, by go_num, hE.out, hw.out⟩, by simp [intOf]; omega⟩
      · rw [decide_eq_false h5]
        have hE := hN (decide_eq_false h5)
        clear h5 hY hN g0
        go_wp2
        go_ret
        exact ⟨ret_bool hE.out.symm, hw.out.fb.bel⟩
    · have HTI : Hid (es.all timeB = true) := time_yes (by rw [HE.out]; omega) hto.out
      clear hto
      go_wp2_with fail
      refine (spec_ltxns ra rl rc ea ec ta tl tc now es ts _ hw.out.fin.ts hw.out.fin.es htl hrl).mono ?_
      rintro e v ⟨rfl, hbv⟩
      have H1 : Hid (FX w v (fabO ra rl rc ea 4 ec ta tl tc now) ra rl ea 4 ta tl rs es ts) := hw.out.under hbv
      clear hbv hw cf
      cases hF : txnsFitB es rl now ts with
      | false =>
        have hE : Hid (fabRightB rs es ts now = false) := fab_no4 (by rw [HR.out]; exact hF)
        go_wp2
        go_ret
        exact ⟨ret_bool hE.out.symm, H1.out.fb.bel⟩
      | true =>
        have HF : Hid (txnsFitB es rs.length now ts = true) := by rw [HR.out]; exact hF
        clear hF
        have cf := fun o => fb_cell H1.out.fb.box o
        go_wp2_with fail
        clear cf
        go_loopw [4] (fun i wr => ∃ k : Nat, k ≤ rl ∧ i = .int .i64 k ∧ Hid (ringTo ts rs k) ∧ Hid (FX w wr (fabO ra rl rc ea 4 ec ta tl tc now) ra rl ea 4 ta tl rs es ts)) (fun i _ => rl - (intOf i).toNat)
        case atStart => exact ⟨0, by omega, rfl, fun j hj => by omega, H1.out⟩
        case round =>
          obtain ⟨n, hn, rfl, hro, hw⟩ := hrel
          clear H1
          have cf := fun o => fb_cell hw.out.fb.box o
          by_cases hlr : n < rl
          · have hnl : n < rs.length := by rw [HR.out]; exact hlr
            have HN2 : Hid (ringFitB ts (n : Int) rs[n] = false → fabRightB rs es ts now = false) := fun h => fab_no5 (ringTo_no (List.getElem?_eq_getElem hnl) h)
            have HY2 : Hid (ringFitB ts (n : Int) rs[n] = true → ringTo ts rs (n + 1)) := fun h => ringTo_succ hro.out (List.getElem?_eq_getElem hnl) h
            have HC : Hid _ := fun w (h1 : Rngs w ra rl rs) (h2 : Txs w ta tl ts) => spec_lring ra rl rc ea 4 ec ta tl tc now rs ts n rs[n] w h1 h2 (List.getElem?_eq_getElem hnl) hrl htl
            obtain ⟨B, hB⟩ : ∃ B, ringFitB ts (n : Int) rs[n] = B := ⟨_, rfl⟩
            rw [hB] at HN2 HY2 HC
            clear hB hro hnl
            go_wp2_with fail
            refine (HC.out _ hw.out.fin.rs hw.out.fin.ts).mono ?_
            rintro e v ⟨rfl, hbv⟩
            have H2 : Hid (FX w v (fabO ra rl rc ea 4 ec ta tl tc now) ra rl ea 4 ta tl rs es ts) := hw.out.under hbv
            clear hbv hw cf
            cases B with
            | true =>
              have HY3 : Hid _ := HY2.out rfl
              go_wp2
              exact ⟨⟨n + 1, by omega, by go_num, HY3.out, H2.out⟩, by simp [intOf]; omega⟩
            | false =>
              have HN3 : Hid _ := HN2.out rfl
              go_wp2
              go_ret
              exact ⟨ret_bool HN3.out.symm, H2.out.fb.bel⟩
          · have hE : Hid (fabRightB rs es ts now = true) := fab_yes HZ.out HN.out HTI.out HF.out (ringTo_yes (by rw [HR.out]; omega) hro.out)
            clear hro
            go_wp2
            go_ret
            exact ⟨ret_bool hE.out.symm, hw.out.fb.bel⟩
end Go.Proofs.YtahccighonddaaaGreatDoor
namespace Go.Proofs.YtahccighonddaaaGreatDoor
open Go.RowKit
attribute [local go_sem ↓] Go.wp_at_zero Go.wp_at_succ
theorem openOf_at {ts : List TD} {p : Int} {k : Nat} {t : TD} (hk : ts[k]? = some t) (h : ∀ j, j < k → ∀ u, ts[j]? = some u → ¬ (u.p = p ∧ u.s = 1)) (hp : t.p = p) (hs : t.s = 1) : openOf ts p = k + 1 := by
  have e : ts.findIdx? (fun t => t.p == p && t.s == 1) = some k := by
    rw [List.findIdx?_eq_some_iff_getElem]
    obtain ⟨hl, e⟩ := List.getElem?_eq_some_iff.1 hk
    refine ⟨hl, by rw [e]; simp [hp, hs], fun j hj => ?_⟩
    have := h j hj _ (List.getElem?_eq_getElem (by omega))
    simp
    intro h1 h2
    exact this ⟨h1, h2⟩
  unfold openOf
  rw [e]
theorem openOf_none {ts : List TD} {p : Int} {k : Nat} (hk : ts.length ≤ k) (h : ∀ j, j < k → ∀ u, ts[j]? = some u → ¬ (u.p = p ∧ u.s = 1)) : openOf ts p = 0 := by
  have e : ts.findIdx? (fun t => t.p == p && t.s == 1) = none := by
    rw [List.findIdx?_eq_none_iff]
    intro t ht
    obtain ⟨j, hj, rfl⟩ := List.getElem_of_mem ht
    have := h j (by omega) _ (List.getElem?_eq_getElem hj)
    simp
    intro h1 h2
    exact this ⟨h1, h2⟩
  unfold openOf
  rw [e]
set_option maxRecDepth 100000 in
set_option maxHeartbeats 4000000 in
theorem spec_lopen (ra : Option Addr) (rl rc : Nat) (ea : Option Addr) (el ec : Nat) (ta : Option Addr) (tl tc : Nat) (now : Int) (p : Int) (ts : List TD) (w : World) (hT : Txs w ta tl ts) (htl : tl ≤ 1048576) :
    Calls Tryz.prog 31 #[fabVal ra rl rc ea el ec ta tl tc now, .int .i64 p] w fun e w' => e = .returned (.int .i64 (openOf ts p : Nat)) ∧ Below w.heap.size w w' := by
  have HT : Hid (Txs w ta tl ts) := hT
  have HL : Hid (ts.length = tl) := hT.1
  clear hT
  have HF : Hid (FB w (w.alloc (fabO ra rl rc ea el ec ta tl tc now)) (fabO ra rl rc ea el ec ta tl tc now)) := fb_new _ _ _
  go_enter Tryz.func31, Tryz.ntmps31
  go_wp2
  go_loopw [5] (fun i wr => ∃ j : Nat, j ≤ tl ∧ i = .int .i64 j ∧ Hid (∀ i, i < j → ∀ u, ts[i]? = some u → ¬ (u.p = p ∧ u.s = 1)) ∧ Hid (FB w wr (fabO ra rl rc ea el ec ta tl tc now))) (fun i _ => tl - (intOf i).toNat)
  case atStart => exact ⟨0, by omega, rfl, (fun i hi => by omega), HF.out⟩
  case round =>
    obtain ⟨j, hj, rfl, hn, hw⟩ := hrel
    clear HF
    have hB := fun o => fb_cell hw.out.box o
    by_cases hlt : j < tl
    · obtain ⟨b, off, t, hta, e1, g0, g1, g2, g3, g4, g5, hf⟩ := txsG_at keeps_tfit HT.out hw.out.bel hlt
      subst hta
      have HJ : Hid (ts[j]? = some t) := e1
      clear e1 hf
      have HS : Hid (¬ (t.p = p ∧ t.s = 1) → ∀ i, i < j + 1 → ∀ u, ts[i]? = some u → ¬ (u.p = p ∧ u.s = 1)) := fun h i hi u hu => by
        by_cases e : i = j
        · subst e
          have := HJ.out.symm.trans hu
          cases this
          exact h
        · exact hn.out i (by omega) u hu
      by_cases h1 : t.p = p
      · have h1' : (t.p == p) = true := by rw [beq_iff_eq]; exact h1
        by_cases h2 : t.s = 1
        · have h2' : (t.s == 1) = true := by rw [beq_iff_eq]; exact h2
          have hE : Hid (openOf ts p = j + 1) := openOf_at HJ.out hn.out h1 h2
          clear h1 h2 HS hn
          go_wp2
          go_ret
          exact ⟨ret_int (by rw [hE.out]; simp), hw.out.bel⟩
        · have h2' : (t.s == 1) = false := by rw [beq_eq_false_iff_ne]; exact h2
          have hE : Hid _ := HS.out (fun h => h2 h.2)
          clear h1 h2 HS hn
          go_wp2
          exact ⟨⟨j + 1, by omega, by go_num, hE.out, hw.out⟩, by simp [intOf]; omega⟩
      · have h1' : (t.p == p) = false := by rw [beq_eq_false_iff_ne]; exact h1
        have hE : Hid _ := HS.out (fun h => h1 h.1)
        clear h1 HS hn
        go_wp2
        exact ⟨⟨j + 1, by omega, by go_num, hE.out, hw.out⟩, by simp [intOf]; omega⟩
    · have hE : Hid (openOf ts p = 0) := openOf_none (by rw [HL.out]; omega) hn.out
      clear hn
      go_wp2
      go_ret
      exact ⟨ret_int (by rw [hE.out]; rfl), hw.out.bel⟩
theorem spec_there (ra : Option Addr) (rl rc : Nat) (ea : Option Addr) (el ec : Nat) (ta : Option Addr) (tl tc : Nat) (now : Int) (n : Int) (w : World) (hrl : rl ≤ 1048576) :
    Calls Tryz.prog 30 #[fabVal ra rl rc ea el ec ta tl tc now, .int .i64 n] w fun e w' => e = .returned (.bool (decide (0 ≤ n ∧ n ≤ (rl : Int) - 1))) ∧ Below w.heap.size w w' := by
  have hw : IntKind.i64.wrap ((rl : Int) - 1) = (rl : Int) - 1 := twrap_in _ (by omega) (by omega)
  go_enter Tryz.func30, Tryz.ntmps30
  go_wp2_with fail
  refine (tspec_is n 0 ((rl : Int) - 1) _).mono ?_
  rintro e w1 ⟨rfl, hw1⟩
  rw [hw1]
  clear hw1 w1
  obtain ⟨T, hT⟩ : ∃ T, decide (0 ≤ n ∧ n ≤ (rl : Int) - 1) = T := ⟨_, rfl⟩
  have HT : Hid (decide (0 ≤ n ∧ n ≤ (rl : Int) - 1) = T) := hT
  rw [hT]
  clear hT
  go_wp2
  go_ret
  exact ⟨ret_bool (by first | rfl | exact HT.out.symm | (rw [← HT.out]; simp)), fbelow_new _ _⟩
end Go.Proofs.YtahccighonddaaaGreatDoor
