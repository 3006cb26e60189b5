import Derived.Test.YtahccighonddaaaGreatDoorTextOut
import Derived.Below
import Derived.RegionTactic
import Derived.LoopTactic
import Derived.BigRegion
import Derived.Deep.QuietTactic
import Derived.BigQuiet
import Derived.Deep.RegionWith
import Derived.Outline
import Derived.Laws.AppendOwn
import Derived.Laws.OwnMore
import Derived.OwnWalk
import Derived.Deep.DeepCutAuto
namespace Go.Proofs.YtahccighonddaaaGreatDoor
open Go.RowKit
def Nums (w : World) (a : Option Addr) (len : Nat) (l : List Int) : Prop :=
  l.length = len ∧ ∀ i (h : i < l.length),∃ b off,a = some ⟨b,off,none⟩ ∧ w.cell? ⟨b,off + i,none⟩ = some (.int .i64 l[i])
theorem nums_below {w w' : World} {a : Option Addr} {len : Nat} {l : List Int} (h : Nums w a len l) (hb : Below w.heap.size w w') : Nums w' a len l :=
  ⟨h.1,fun i hi => by
    obtain ⟨b,off,e,hc⟩ := h.2 i hi
    exact ⟨b,off,e,(hb.cell (p := ⟨b,off + i,none⟩) (World.block_lt_of_cell? w ⟨b,off + i,none⟩ hc)).trans hc⟩⟩
theorem nums_at {w wr : World} {a : Option Addr} {n : Nat} {l : List Int} (h : Nums w a n l) (hb : Below w.heap.size w wr) {k : Nat} (hk : k < n) :
    ∃ b off V,a = some ⟨b,off,none⟩ ∧ l[k]? = some V ∧ wr.cell? ⟨b,off + k,none⟩ = some (.int .i64 V) := by
  have hkl : k < l.length := by rw [h.1]; exact hk
  obtain ⟨b,off,e,hc⟩ := (nums_below h hb).2 k hkl
  exact ⟨b,off,l[k],e,by simp [hkl],hc⟩
theorem nums_get {w wr : World} {a : Option Addr} {n : Nat} {l : List Int} (h : Nums w a n l) (hb : Below w.heap.size w wr) {k : Nat} (hk : k < n) :
    ∃ b off,a = some ⟨b,off,none⟩ ∧ ∃ h : k < l.length,wr.cell? ⟨b,off + k,none⟩ = some (.int .i64 l[k]) := by
  have hkl : k < l.length := by rw [h.1]; exact hk
  obtain ⟨b,off,e,hc⟩ := (nums_below h hb).2 k hkl
  exact ⟨b,off,e,hkl,hc⟩
theorem tbelow_tr {w u v : World} (h : Below w.heap.size w u) (hb : Below u.heap.size u v) : Below w.heap.size w v := h.trans (hb.mono h.size)
theorem tbelow_dn {B : Nat} {a w : World} (h : Below B a w) (n : Nat) : Below B a (w.drewN n) := ⟨h.os,h.tape,h.output,h.size,h.block⟩
theorem tbelow_new (w : World) (o : Obj) : Below w.heap.size w (w.alloc o) := (Below.refl _ _).alloc (Nat.le_refl _) _
theorem tbelow_grown {w w' : World} (h : Below w.heap.size w w') : w.grownBy w' none := ⟨h.os,h.tape,h.output,h.size,fun k hk _ => h.block k hk⟩
abbrev txnV (p e s u : Int) (ra : Option Addr) (rl rc : Nat) (la : Option Addr) (ll lc : Nat) : Value := .agg #[.int .i64 p,.int .i64 e,.int .i64 s,.int .i64 u,.slice ra rl rc,.slice la ll lc]
abbrev txnObj (p e s u : Int) (ra : Option Addr) (rl rc : Nat) (la : Option Addr) (ll lc : Nat) : Obj := .cells #[.int .i64 p,.int .i64 e,.int .i64 s,.int .i64 u,.slice ra rl rc,.slice la ll lc] 59 (0,0)
abbrev numCells (l : List Int) : List Value := l.map (Value.int .i64)
structure NumIn (w : World) (a : Option Addr) (n c : Nat) (l : List Int) : Prop where
  nums : Nums w a n l
  lt : ∀ x,a = some x → x.block < w.heap.size
  nil : a = none → n = 0 ∧ c = 0
  cap : n ≤ c
  off : ∀ x,a = some x → x = ⟨x.block,x.off,none⟩
theorem NumIn.below {w w' : World} {a : Option Addr} {n c : Nat} {l : List Int} (h : NumIn w a n c l) (hb : Below w.heap.size w w') : NumIn w' a n c l := ⟨nums_below h.nums hb,fun x e => Nat.lt_of_lt_of_le (h.lt x e) hb.size,h.nil,h.cap,h.off⟩
theorem nums_news {w : World} {a : Option Addr} {n : Nat} {l : List Int} (h : Nums w a n l) : ∀ x,a = some x → ∀ k u,(numCells l)[k]? = some u → w.cell? (x.add k) = some u := fun x e k u hu => by
  have hk : k < l.length := by have := (List.getElem?_eq_some_iff.1 hu).1; simpa using this
  obtain ⟨b,off,e',hc⟩ := h.2 k hk
  rw [e] at e'
  cases e'
  rw [Addr.add_lit,hc,← hu]
  simp [hk]
theorem numCells_one (l : List Int) : ∀ u ∈ numCells l,u.oneCell' = true := by
  intro u hu
  obtain ⟨s,_,rfl⟩ := List.mem_map.1 hu
  rfl
theorem own_nform {w : World} {base e size n : Nat} {a : Option Addr} {c : Nat} {xs : List Value} (h : w.ownsRow base e size (.slice a n c) n xs) (hn : 0 < n) : ∃ g,a = some ⟨g,0,none⟩ := by
  rcases h.2 with ⟨e1,h0⟩ | ⟨g,cap,cur,e1,_⟩
  · omega
  · simp only [Value.slice.injEq] at e1
    exact ⟨g,e1.1⟩
theorem own_nums {w : World} {base n c : Nat} {a : Option Addr} {l : List Int} (h : w.ownsRow base 2 1 (.slice a n c) n (numCells l)) : Nums w a n l := by
  have hl : l.length = n := by simpa using h.1
  refine ⟨hl,fun i hi => ?_⟩
  obtain ⟨g,rfl⟩ := own_nform h (by omega)
  refine ⟨g,0,rfl,?_⟩
  rw [Nat.zero_add,h.cellAt i (by omega)]
  simp [hi]
theorem own_numV {w : World} {base n : Nat} {v : Value} {xs : List Value} (h : w.ownsRow base 2 1 v n xs) : ∃ a c,v = .slice a n c := by
  rcases h.2 with ⟨rfl,rfl⟩ | ⟨g,cap,cur,rfl,_⟩
  · exact ⟨none,0,rfl⟩
  · exact ⟨_,_,rfl⟩
theorem own_numIn {w : World} {base n : Nat} {v : Value} {l : List Int} (h : w.ownsRow base 2 1 v n (numCells l)) : ∃ a c,v = .slice a n c ∧ NumIn w a n c l := by
  have h' := h
  rcases h.2 with ⟨rfl,rfl⟩ | ⟨g,cap,cur,rfl,_,hg,hc,_⟩
  · exact ⟨none,0,rfl,own_nums h',(fun x e => by cases e),(fun _ => ⟨rfl,rfl⟩),Nat.le_refl _,(fun x e => by cases e)⟩
  · exact ⟨some ⟨g,0,none⟩,cap,rfl,own_nums h',(fun x e => by cases e; exact (Array.getElem?_eq_some_iff.1 hg).1),(fun e => by cases e),hc,(fun x e => by cases e; rfl)⟩
theorem info_i64 : (Tryz.prog.info? 2).map (fun i => (i.zero,i.size,i.bytes)) = some (some (.int .i64 0),1,8) := by kernel_rfl
theorem twrap_in (n : Int) (h1 : -9223372036854775808 ≤ n) (h2 : n ≤ 9223372036854775807) : IntKind.i64.wrap n = n := by
  simp [IntKind.wrap,IntKind.bits,IntKind.signed]; omega
def rnum (x : Int) : Bool := decide (0 ≤ x ∧ x ≤ 3)
def upTo (l : List Int) (k : Nat) : Prop := ∀ j,j + 1 < k → ∀ (h : j + 1 < l.length),l[j] < l[j + 1]
def upB (l : List Int) : Bool := decide (∀ j,j < l.length → ∀ (h : j + 1 < l.length),l[j] < l[j + 1])
theorem up_yes {l : List Int} {k : Nat} (h : upTo l k) (hk : l.length ≤ k) : upB l = true := decide_eq_true fun j _ h1 => h j (by omega) h1
theorem up_no {l : List Int} {k : Nat} (h1 : k + 1 < l.length) (h : ¬ l[k] < l[k + 1]) : upB l = false := decide_eq_false fun hh => h (hh k (by omega) h1)
theorem up_at {l : List Int} (h : upB l = true) {i j : Nat} (hij : i < j) (hj : j < l.length) : l[i] < l[j] := by
  have hh := of_decide_eq_true h
  induction j with
  | zero => omega
  | succ j ih =>
    have h1 := hh j (by omega) hj
    by_cases e : i = j
    · subst e; exact h1
    · exact Int.lt_trans (ih (by omega) (by omega)) h1
def ringsB (l : List Int) : Bool := l.all rnum && upB l
def hasB (l : List Int) (n : Int) : Bool := l.any (fun x => x == n)
def txnRightB (p e s u : Int) (rs ls : List Int) : Bool :=
  decide (1 ≤ p ∧ p ≤ 4) && decide (1 ≤ e ∧ e ≤ 1000000) && decide (1 ≤ s ∧ s ≤ 3) && decide (0 ≤ u ∧ u ≤ 1000000) && ringsB rs && ringsB ls && ls.all (hasB rs) && (decide (s ≠ 1) || decide (ls.length = 0))
theorem n1 {α : Type} (xs : List α) (i : Nat) (h : i < xs.toArray.size) : xs.toArray[i] = xs[i]'(by simpa using h) := rfl
theorem n2 {α : Type} (x : α) (xs : List α) (h : 0 < (x :: xs).length) : (x :: xs)[0] = x := rfl
theorem n3 {α : Type} (x : α) (xs : List α) (i : Nat) (h : i + 1 < (x :: xs).length) : (x :: xs)[i + 1] = xs[i]'(Nat.lt_of_succ_lt_succ h) := rfl
theorem n4 {α : Type} (xs : List α) (i : Nat) (v : α) : xs.toArray.setIfInBounds i v = (xs.set i v).toArray := by simp
theorem n5 {α : Type} (x v : α) (xs : List α) : (x :: xs).set 0 v = v :: xs := rfl
theorem n6 {α : Type} (x v : α) (xs : List α) (i : Nat) : (x :: xs).set (i + 1) v = x :: xs.set i v := rfl
end Go.Proofs.YtahccighonddaaaGreatDoor
namespace Go.Proofs.YtahccighonddaaaGreatDoor
open Go.RowKit
theorem tspec_is (n a b : Int) (w : World) :
    Calls Tryz.prog 61 #[.int .i64 n,.int .i64 a,.int .i64 b] w fun e w' => e = .returned (.bool (decide (a ≤ n ∧ n ≤ b))) ∧ w' = w := by
  by_cases h1 : a ≤ n
  · by_cases h2 : n ≤ b
    · go_enter Tryz.func61,Tryz.ntmps61
      go_wp2
      go_ret
      exact ⟨ret_bool (decide_eq_true ⟨h1,h2⟩).symm,rfl⟩
    · go_enter Tryz.func61,Tryz.ntmps61
      go_wp2
      go_ret
      exact ⟨ret_bool (decide_eq_false (by omega)).symm,rfl⟩
  · go_enter Tryz.func61,Tryz.ntmps61
    go_wp2
    go_ret
    exact ⟨ret_bool (by simp; omega),rfl⟩
theorem tspec_time (n : Int) (w : World) : Calls Tryz.prog 123 #[.int .i64 n] w fun e w' => e = .returned (.bool (decide (0 ≤ n ∧ n ≤ 1000000))) ∧ w' = w := by
  go_enter Tryz.func123,Tryz.ntmps123
  go_wp2_with fail
  refine (tspec_is n 0 1000000 _).mono ?_
  rintro e w1 ⟨rfl,rfl⟩
  go_wp2
  go_ret
  exact ⟨ret_bool (by simp),rfl⟩
def rnumTo (l : List Int) (k : Nat) : Prop := ∀ j,j < k → ∀ (h : j < l.length),rnum l[j] = true
theorem rings_no {l : List Int} {k : Nat} (hk : k < l.length) (h : rnum l[k] = false) : ringsB l = false := by
  have e : l.all rnum = false := by
    rw [List.all_eq_false]
    exact ⟨l[k],List.getElem_mem hk,by simp [h]⟩
  simp [ringsB,e]
theorem rings_yes {l : List Int} {k : Nat} (hk : l.length ≤ k) (h : rnumTo l k) (hu : upTo l k) : ringsB l = true := by
  have e : l.all rnum = true := by
    rw [List.all_eq_true]
    intro x hx
    obtain ⟨j,hj,rfl⟩ := List.getElem_of_mem hx
    exact h j (by omega) hj
  simp [ringsB,e,up_yes hu hk]
theorem rnumTo_succ {l : List Int} {k : Nat} (hr : rnumTo l k) (hk : k < l.length) (h : rnum l[k] = true) : rnumTo l (k + 1) := fun i hi h1 => by
  by_cases hik : i = k
  · subst hik; exact h
  · exact hr i (by omega) h1
theorem upTo_succ {l : List Int} {j : Nat} (hr : upTo l (j + 1)) (hk : j + 1 < l.length) (h : l[j] < l[j + 1]) : upTo l (j + 1 + 1) := fun i hi h1 => by
  by_cases hij : i = j
  · subst hij; exact h
  · exact hr i (by omega) h1
set_option maxRecDepth 100000 in
set_option maxHeartbeats 2000000 in
theorem spec_rings (a : Option Addr) (n c : Nat) (l : List Int) (w : World) (h : Nums w a n l) (hn : n ≤ 1048576) :
    Calls Tryz.prog 216 #[.slice a n c] w fun e w' => e = .returned (.bool (ringsB l)) ∧ Below w.heap.size w w' := by
  have HC : Hid (Nums w a n l) := h
  have HL : Hid (l.length = n) := h.1
  clear h
  go_enter Tryz.func216,Tryz.ntmps216
  go_wp2
  go_loopw [3] (fun i wr => ∃ k : Nat,k ≤ n ∧ i = .int .i64 k ∧ Hid (rnumTo l k) ∧ Hid (upTo l k) ∧ Hid (Below w.heap.size w wr)) (fun i _ => n - (intOf i).toNat)
  case atStart => exact ⟨0,by omega,rfl,fun j hj => by omega,fun j hj => by omega,Below.refl _ _⟩
  case round =>
    obtain ⟨k,hkn,rfl,hr,hu,hw⟩ := hrel
    by_cases hlt : k < n
    · obtain ⟨b,off,rfl,hj,g1⟩ := nums_get HC.out hw.out (k := k) hlt
      have hN : rnum l[k] = false → Hid (ringsB l = false) := fun h => rings_no hj h
      have hY : rnum l[k] = true → Hid (rnumTo l (k + 1)) := fun h => rnumTo_succ hr.out hj h
      have hlI : (k : Int) < (n : Int) := by omega
      cases k with
      | zero =>
        have hU : Hid (upTo l (0 + 1)) := fun i hi => by omega
        obtain ⟨V,e1⟩ : ∃ V,l[0] = V := ⟨_,rfl⟩
        rw [e1] at hN hY g1
        have HI : Hid _ := fun w => tspec_is V 0 3 w
        simp only [Nat.add_zero] at g1
        clear e1 hr hu hj
        by_cases hV : 0 ≤ V ∧ V ≤ 3
        · have hE := hY (decide_eq_true hV)
          rw [decide_eq_true hV] at HI
          clear hY hN hV
          go_wp2
          go_quiet (first | (go_at_call 61; exact Calls.quiet_of_same (HI.out _)))
          go_wp2
          exact ⟨⟨0 + 1,by omega,by go_num,hE.out,hU.out,tbelow_dn hw.out _⟩,by simp [intOf]; omega⟩
        · have hE := hN (decide_eq_false hV)
          rw [decide_eq_false hV] at HI
          clear hY hN hV
          go_wp2
          go_quiet (first | (go_at_call 61; exact Calls.quiet_of_same (HI.out _)))
          go_wp2
          go_ret
          exact ⟨ret_bool hE.out.symm,tbelow_dn hw.out _⟩
      | succ j =>
        obtain ⟨b',off',e,hj',g2⟩ := nums_get HC.out hw.out (k := j) (by omega)
        obtain ⟨rfl,rfl⟩ : b' = b ∧ off' = off := by simp at e; omega
        have hUY : l[j] < l[j + 1] → Hid (upTo l (j + 1 + 1)) := fun h => upTo_succ hu.out hj h
        have hUN : ¬ l[j] < l[j + 1] → Hid (ringsB l = false) := fun h => by show ringsB l = false; simp [ringsB,up_no hj h]
        obtain ⟨V,e1⟩ : ∃ V,l[j + 1] = V := ⟨_,rfl⟩
        obtain ⟨U,e2⟩ : ∃ U,l[j] = U := ⟨_,rfl⟩
        rw [e1] at hN hY g1 hUY hUN
        rw [e2] at g2 hUY hUN
        have HI : Hid _ := fun w => tspec_is V 0 3 w
        have hW1 : IntKind.i64.wrap (j : Int) = (j : Int) := twrap_in _ (by omega) (by omega)
        have hjn : (j : Int) < (n : Int) := by omega
        clear e1 e2 hr hu hj hj' e
        by_cases hV : 0 ≤ V ∧ V ≤ 3
        · have hE := hY (decide_eq_true hV)
          rw [decide_eq_true hV] at HI
          clear hY hN hV
          by_cases hG : U < V
          · have hF := hUY hG
            have hG' : decide (V ≤ U) = false := decide_eq_false (by omega)
            clear hUY hUN
            go_wp2
            go_quiet (first | (go_at_call 61; exact Calls.quiet_of_same (HI.out _)))
            go_wp2
            exact ⟨⟨j + 1 + 1,by omega,by go_num,hE.out,hF.out,tbelow_dn hw.out _⟩,by simp [intOf]; omega⟩
          · have hF := hUN hG
            have hG' : decide (V ≤ U) = true := decide_eq_true (by omega)
            clear hUY hUN
            go_wp2
            go_quiet (first | (go_at_call 61; exact Calls.quiet_of_same (HI.out _)))
            go_wp2
            go_ret
            exact ⟨ret_bool hF.out.symm,tbelow_dn hw.out _⟩
        · have hE := hN (decide_eq_false hV)
          rw [decide_eq_false hV] at HI
          clear hY hN hV hUY hUN
          go_wp2
          go_quiet (first | (go_at_call 61; exact Calls.quiet_of_same (HI.out _)))
          go_wp2
          go_ret
          exact ⟨ret_bool hE.out.symm,tbelow_dn hw.out _⟩
    · have hE : Hid (ringsB l = true) := rings_yes (by rw [HL.out]; omega) hr.out hu.out
      go_wp2
      go_ret
      exact ⟨ret_bool hE.out.symm,hw.out⟩
def hasTo (l : List Int) (n : Int) (k : Nat) : Prop := ∀ j,j < k → ∀ (h : j < l.length),l[j] ≠ n
theorem has_yes {l : List Int} {n : Int} {k : Nat} (hk : k < l.length) (h : l[k] = n) : hasB l n = true := by
  unfold hasB
  rw [List.any_eq_true]
  exact ⟨l[k],List.getElem_mem hk,by simp [h]⟩
theorem has_no {l : List Int} {n : Int} {k : Nat} (hk : l.length ≤ k) (h : hasTo l n k) : hasB l n = false := by
  unfold hasB
  rw [List.any_eq_false]
  intro x hx
  obtain ⟨j,hj,rfl⟩ := List.getElem_of_mem hx
  have := h j (by omega) hj
  simpa using this
set_option maxHeartbeats 1000000 in
theorem spec_has (a : Option Addr) (n c : Nat) (l : List Int) (g : Int) (w : World) (h : Nums w a n l) (hn : n ≤ 1048576) :
    Calls Tryz.prog 33 #[.slice a n c,.int .i64 g] w fun e w' => e = .returned (.bool (hasB l g)) ∧ w' = w := by
  have HC : Hid (Nums w a n l) := h
  have HL : Hid (l.length = n) := h.1
  clear h
  go_enter Tryz.func33,Tryz.ntmps33
  go_wp2
  go_loop [5] (fun i => ∃ k : Nat,k ≤ n ∧ i = .int .i64 k ∧ Hid (hasTo l g k)) (fun i => n - (intOf i).toNat)
  case atStart => exact ⟨0,by omega,rfl,fun j hj => by omega⟩
  case round =>
    obtain ⟨k,hkn,rfl,hr⟩ := hrel
    by_cases hlt : k < n
    · obtain ⟨b,off,rfl,hj,g1⟩ := nums_get HC.out (Below.refl _ _) (k := k) hlt
      have hY : l[k] = g → Hid (hasB l g = true) := fun h => has_yes hj h
      have hN : l[k] ≠ g → Hid (hasTo l g (k + 1)) := fun h i hi h1 => by
        by_cases hik : i = k
        · subst hik; exact h
        · exact hr.out i (by omega) h1
      obtain ⟨V,e1⟩ : ∃ V,l[k] = V := ⟨_,rfl⟩
      rw [e1] at hY hN g1
      clear e1 hr hj
      by_cases hV : V = g
      · have hE := hY hV
        have hV' : (V == g) = true := by simpa using hV
        clear hY hN hV
        go_wp2
        go_ret
        exact ⟨ret_bool hE.out.symm,rfl⟩
      · have hE := hN hV
        have hV' : (V == g) = false := by simpa using hV
        clear hY hN hV
        go_wp2
        exact ⟨⟨k + 1,by omega,by go_num,hE.out⟩,by simp [intOf]; omega⟩
    · have hE : Hid (hasB l g = false) := has_no (by rw [HL.out]; omega) hr.out
      go_wp2
      go_ret
      exact ⟨ret_bool hE.out.symm,rfl⟩
end Go.Proofs.YtahccighonddaaaGreatDoor
namespace Go.Proofs.YtahccighonddaaaGreatDoor
open Go.RowKit
variable {p e s u : Int} {ra la : Option Addr} {rl rc ll lc : Nat}
structure TIn (w : World) (ra : Option Addr) (rl : Nat) (la : Option Addr) (ll : Nat) (rs ls : List Int) : Prop where
  rs : Nums w ra rl rs
  ls : Nums w la ll ls
  rle : rl ≤ 1048576
  lle : ll ≤ 1048576
theorem TIn.below {w w' : World} {rs ls : List Int} (h : TIn w ra rl la ll rs ls) (hb : Below w.heap.size w w') : TIn w' ra rl la ll rs ls := ⟨nums_below h.rs hb,nums_below h.ls hb,h.rle,h.lle⟩
def inTo2 (rs ls : List Int) (k : Nat) : Prop := ∀ j,j < k → ∀ (h : j < ls.length),hasB rs ls[j] = true
theorem in2_no {rs ls : List Int} {k : Nat} (hk : k < ls.length) (h : hasB rs ls[k] = false) : ls.all (hasB rs) = false := by
  rw [List.all_eq_false]
  exact ⟨ls[k],List.getElem_mem hk,by simp [h]⟩
theorem in2_yes {rs ls : List Int} {k : Nat} (hk : ls.length ≤ k) (h : inTo2 rs ls k) : ls.all (hasB rs) = true := by
  rw [List.all_eq_true]
  intro x hx
  obtain ⟨j,hj,rfl⟩ := List.getElem_of_mem hx
  exact h j (by omega) hj
set_option maxRecDepth 100000 in
set_option maxHeartbeats 4000000 in
theorem spec_txnRight (rs ls : List Int) (w : World) (hi : TIn w ra rl la ll rs ls) :
    Calls Tryz.prog 180 #[txnV p e s u ra rl rc la ll lc] w fun x w' => x = .returned (.bool (txnRightB p e s u rs ls)) ∧ Below w.heap.size w w' := by
  have HI : Hid (TIn w ra rl la ll rs ls) := hi
  have hrl : rl ≤ 1048576 := hi.rle
  have hll : ll ≤ 1048576 := hi.lle
  have HL : Hid (ls.length = ll) := hi.ls.1
  clear hi
  have HB0 : Hid (Below w.heap.size w (w.alloc (txnObj p e s u ra rl rc la ll lc))) := tbelow_new _ _
  have H1 : Hid _ := fun w => tspec_is p 1 4 w
  have H2 : Hid _ := fun w => tspec_is e 1 1000000 w
  have H3 : Hid _ := fun w => tspec_is s 1 3 w
  have H4 : Hid _ := fun w => tspec_time u w
  by_cases h1 : 1 ≤ p ∧ p ≤ 4
  · rw [decide_eq_true h1] at H1
    by_cases h2 : 1 ≤ e ∧ e ≤ 1000000
    · rw [decide_eq_true h2] at H2
      by_cases h3 : 1 ≤ s ∧ s ≤ 3
      · rw [decide_eq_true h3] at H3
        by_cases h4 : 0 ≤ u ∧ u ≤ 1000000
        · rw [decide_eq_true h4] at H4
          have HG : Hid (txnRightB p e s u rs ls = (ringsB rs && ringsB ls && ls.all (hasB rs) && (decide (s ≠ 1) || decide (ls.length = 0)))) := show _ = _ by simp [txnRightB,h1,h2,h3,h4]
          have H5 : Hid _ := fun w (h : Nums w ra rl rs) => spec_rings ra rl rc rs w h hrl
          have H6 : Hid _ := fun w (h : Nums w la ll ls) => spec_rings la ll lc ls w h hll
          obtain ⟨R,hR⟩ : ∃ R,ringsB rs = R := ⟨_,rfl⟩
          obtain ⟨L,hL⟩ : ∃ L,ringsB ls = L := ⟨_,rfl⟩
          rw [hR] at H5 HG
          rw [hL] at H6 HG
          clear hR hL h1 h2 h3 h4
          go_enter Tryz.func180,Tryz.ntmps180
          go_wp2_with fail
          refine (H1.out _).mono ?_
          rintro x w1 ⟨rfl,hw1⟩
          rw [hw1]
          clear hw1 w1
          go_wp2_with fail
          refine (H2.out _).mono ?_
          rintro x w1 ⟨rfl,hw1⟩
          rw [hw1]
          clear hw1 w1
          go_wp2_with fail
          refine (H3.out _).mono ?_
          rintro x w1 ⟨rfl,hw1⟩
          rw [hw1]
          clear hw1 w1
          go_wp2_with fail
          refine (H4.out _).mono ?_
          rintro x w1 ⟨rfl,hw1⟩
          rw [hw1]
          clear hw1 w1
          go_wp2_with fail
          refine (H5.out _ (nums_below HI.out.rs HB0.out)).mono ?_
          rintro x w1 ⟨rfl,hb1⟩
          have HB1 : Hid (Below w.heap.size w w1) := tbelow_tr HB0.out hb1
          have hc1 := fun o => hb1.cell (p := ⟨w.heap.size,o,none⟩) (by simp)
          have hz1 : w.heap.size < w1.heap.size := by have h := hb1.size; simp at h; omega
          clear hb1
          cases R
          · have hE : Hid (txnRightB p e s u rs ls = false) := HG.out.trans (by simp)
            clear HG
            go_wp2
            go_ret
            exact ⟨ret_bool hE.out.symm,HB1.out⟩
          · go_wp2_with fail
            refine (H6.out _ (nums_below HI.out.ls HB1.out)).mono ?_
            rintro x w2 ⟨rfl,hb2⟩
            have HB2 : Hid (Below w.heap.size w w2) := tbelow_tr HB1.out hb2
            have hc2 : ∀ o,w2.cell? ⟨w.heap.size,o,none⟩ = _ := fun o => (hb2.cell (p := ⟨w.heap.size,o,none⟩) hz1).trans (hc1 o)
            have hz2 := Nat.lt_of_lt_of_le hz1 hb2.size
            clear hb2 hc1
            cases L
            · have hE : Hid (txnRightB p e s u rs ls = false) := HG.out.trans (by simp)
              clear HG
              go_wp2
              go_ret
              exact ⟨ret_bool hE.out.symm,HB2.out⟩
            · have HG2 : Hid (txnRightB p e s u rs ls = (ls.all (hasB rs) && (decide (s ≠ 1) || decide (ls.length = 0)))) := HG.out.trans (by simp)
              clear HG H5 H6
              have HI2 : Hid (TIn w2 ra rl la ll rs ls) := HI.out.below HB2.out
              have HK : Hid (w2.cell? ⟨w.heap.size,0,none⟩ = some (.int .i64 p) ∧ w2.cell? ⟨w.heap.size,2,none⟩ = some (.int .i64 s) ∧ w2.cell? ⟨w.heap.size,4,none⟩ = some (.slice ra rl rc) ∧ w2.cell? ⟨w.heap.size,5,none⟩ = some (.slice la ll lc)) := by
                refine ⟨?_,?_,?_,?_⟩ <;> (rw [hc2]; simp)
              clear hc2
              go_wp2
              go_loopw [3] (fun i wr => ∃ k : Nat,k ≤ ll ∧ i = .int .i64 k ∧ Hid (inTo2 rs ls k) ∧ Hid (Below w2.heap.size w2 wr)) (fun i _ => ll - (intOf i).toNat)
              case atStart => exact ⟨0,by omega,rfl,fun j hj => by omega,Below.refl _ _⟩
              case round =>
                obtain ⟨k,hkn,rfl,hr,hw⟩ := hrel
                have d2 := (hw.out.cell (p := ⟨w.heap.size,2,none⟩) hz2).trans HK.out.2.1
                have d4 := (hw.out.cell (p := ⟨w.heap.size,4,none⟩) hz2).trans HK.out.2.2.1
                have d5 := (hw.out.cell (p := ⟨w.heap.size,5,none⟩) hz2).trans HK.out.2.2.2
                by_cases hlt : k < ll
                · obtain ⟨b,off,rfl,hj,g1⟩ := nums_get HI2.out.ls hw.out (k := k) hlt
                  have hN : hasB rs ls[k] = false → Hid (txnRightB p e s u rs ls = false) := fun h => show _ = _ by rw [HG2.out,in2_no hj h]; simp
                  have hY : hasB rs ls[k] = true → Hid (inTo2 rs ls (k + 1)) := fun h i hi h1 => by
                    by_cases hik : i = k
                    · subst hik; exact h
                    · exact hr.out i (by omega) h1
                  have HH : Hid _ := fun w (h : Nums w ra rl rs) => spec_has ra rl rc rs ls[k] w h hrl
                  obtain ⟨T,hT⟩ : ∃ T,hasB rs ls[k] = T := ⟨_,rfl⟩
                  rw [hT] at hN hY HH
                  clear hT
                  obtain ⟨V,e1⟩ : ∃ V,ls[k] = V := ⟨_,rfl⟩
                  rw [e1] at g1 HH
                  have HRs : Hid (Nums wr ra rl rs) := nums_below HI2.out.rs hw.out
                  clear e1 hr hj
                  cases T
                  · have hE := hN rfl
                    clear hN hY
                    go_wp2
                    go_quiet (first | (go_at_call 33; exact Calls.quiet_of_same (HH.out _ HRs.out)))
                    go_wp2
                    go_ret
                    exact ⟨ret_bool hE.out.symm,tbelow_tr HB2.out (tbelow_dn hw.out _)⟩
                  · have hE := hY rfl
                    clear hN hY
                    go_wp2
                    go_quiet (first | (go_at_call 33; exact Calls.quiet_of_same (HH.out _ HRs.out)))
                    go_wp2
                    exact ⟨⟨k + 1,by omega,by go_num,hE.out,tbelow_dn hw.out _⟩,by simp [intOf]; omega⟩
                · have HG3 : Hid (txnRightB p e s u rs ls = (decide (s ≠ 1) || decide (ll = 0))) := show _ = _ by rw [HG2.out,in2_yes (by rw [HL.out]; omega) hr.out,HL.out]; simp
                  clear hr HG2
                  by_cases hs : s = 1
                  · subst hs
                    go_wp2
                    go_ret
                    refine ⟨ret_bool ?_,tbelow_tr HB2.out hw.out⟩
                    rw [HG3.out,Bool.eq_iff_iff]
                    simp
                  · have hs' : (s != 1) = true := by simpa using hs
                    go_wp2
                    go_ret
                    refine ⟨ret_bool ?_,tbelow_tr HB2.out hw.out⟩
                    rw [HG3.out]
                    simp [hs]
        · rw [decide_eq_false h4] at H4
          have hE : Hid (txnRightB p e s u rs ls = false) := show _ = _ by simp [txnRightB,h4]
          clear h1 h2 h3 h4
          go_enter Tryz.func180,Tryz.ntmps180
          go_wp2_with fail
          refine (H1.out _).mono ?_
          rintro x w1 ⟨rfl,hw1⟩
          rw [hw1]
          clear hw1 w1
          go_wp2_with fail
          refine (H2.out _).mono ?_
          rintro x w1 ⟨rfl,hw1⟩
          rw [hw1]
          clear hw1 w1
          go_wp2_with fail
          refine (H3.out _).mono ?_
          rintro x w1 ⟨rfl,hw1⟩
          rw [hw1]
          clear hw1 w1
          go_wp2_with fail
          refine (H4.out _).mono ?_
          rintro x w1 ⟨rfl,hw1⟩
          rw [hw1]
          clear hw1 w1
          go_wp2
          go_ret
          exact ⟨ret_bool hE.out.symm,HB0.out⟩
      · rw [decide_eq_false h3] at H3
        have hE : Hid (txnRightB p e s u rs ls = false) := show _ = _ by simp [txnRightB,h3]
        clear h1 h2 h3
        go_enter Tryz.func180,Tryz.ntmps180
        go_wp2_with fail
        refine (H1.out _).mono ?_
        rintro x w1 ⟨rfl,hw1⟩
        rw [hw1]
        clear hw1 w1
        go_wp2_with fail
        refine (H2.out _).mono ?_
        rintro x w1 ⟨rfl,hw1⟩
        rw [hw1]
        clear hw1 w1
        go_wp2_with fail
        refine (H3.out _).mono ?_
        rintro x w1 ⟨rfl,hw1⟩
        rw [hw1]
        clear hw1 w1
        go_wp2
        go_ret
        exact ⟨ret_bool hE.out.symm,HB0.out⟩
    · rw [decide_eq_false h2] at H2
      have hE : Hid (txnRightB p e s u rs ls = false) := show _ = _ by simp [txnRightB,h2]
      clear h1 h2
      go_enter Tryz.func180,Tryz.ntmps180
      go_wp2_with fail
      refine (H1.out _).mono ?_
      rintro x w1 ⟨rfl,hw1⟩
      rw [hw1]
      clear hw1 w1
      go_wp2_with fail
      refine (H2.out _).mono ?_
      rintro x w1 ⟨rfl,hw1⟩
      rw [hw1]
      clear hw1 w1
      go_wp2
      go_ret
      exact ⟨ret_bool hE.out.symm,HB0.out⟩
  · rw [decide_eq_false h1] at H1
    have hE : Hid (txnRightB p e s u rs ls = false) := show _ = _ by simp [txnRightB,h1]
    clear h1
    go_enter Tryz.func180,Tryz.ntmps180
    go_wp2_with fail
    refine (H1.out _).mono ?_
    rintro x w1 ⟨rfl,hw1⟩
    rw [hw1]
    clear hw1 w1
    go_wp2
    go_ret
    exact ⟨ret_bool hE.out.symm,HB0.out⟩
end Go.Proofs.YtahccighonddaaaGreatDoor
namespace Go.Proofs.YtahccighonddaaaGreatDoor
open Go.RowKit
variable {p e s u : Int} {ra la : Option Addr} {rl rc ll lc : Nat}
theorem timpl_time (n : Int) (w : World) : Calls Tryz.prog 185 #[.int .i64 n] w fun x w' => x = .returned (.bool (decide (0 ≤ n ∧ n ≤ 1000000))) ∧ w' = w := by
  by_cases h1 : 0 ≤ n
  · go_enter Tryz.func185,Tryz.ntmps185
    go_wp2
    go_ret
    exact ⟨ret_bool (by rw [Bool.eq_iff_iff]; simp [h1]),rfl⟩
  · go_enter Tryz.func185,Tryz.ntmps185
    go_wp2
    go_ret
    exact ⟨ret_bool (by simp; omega),rfl⟩
theorem timpl_prod (n : Int) (w : World) : Calls Tryz.prog 142 #[.int .i64 n] w fun x w' => x = .returned (.bool (decide (1 ≤ n ∧ n ≤ 4))) ∧ w' = w := by
  by_cases h1 : 1 ≤ n
  · go_enter Tryz.func142,Tryz.ntmps142
    go_wp2
    go_ret
    exact ⟨ret_bool (by rw [Bool.eq_iff_iff]; simp [h1]),rfl⟩
  · go_enter Tryz.func142,Tryz.ntmps142
    go_wp2
    go_ret
    exact ⟨ret_bool (by simp; omega),rfl⟩
theorem timpl_rnum (n : Int) (w : World) : Calls Tryz.prog 151 #[.int .i64 n] w fun x w' => x = .returned (.bool (rnum n)) ∧ w' = w := by
  by_cases h1 : 0 ≤ n
  · go_enter Tryz.func151,Tryz.ntmps151
    go_wp2
    go_ret
    exact ⟨ret_bool (by rw [Bool.eq_iff_iff]; simp [rnum,h1]),rfl⟩
  · go_enter Tryz.func151,Tryz.ntmps151
    go_wp2
    go_ret
    exact ⟨ret_bool (decide_eq_false (by omega)).symm,rfl⟩
def endsB (n : Int) : Bool := decide (2 ≤ n ∧ n ≤ 3)
theorem timpl_ends (n : Int) (w : World) : Calls Tryz.prog 237 #[.int .i64 n] w fun x w' => x = .returned (.bool (endsB n)) ∧ w' = w := by
  by_cases h1 : n = 2
  · subst h1
    go_enter Tryz.func237,Tryz.ntmps237
    go_wp2
    go_ret
    exact ⟨rfl,rfl⟩
  by_cases h2 : n = 3
  · subst h2
    go_enter Tryz.func237,Tryz.ntmps237
    go_wp2
    go_ret
    exact ⟨rfl,rfl⟩
  have e1 : (n == 2) = false := by rw [beq_eq_false_iff_ne]; exact h1
  have e2 : (n == 3) = false := by rw [beq_eq_false_iff_ne]; exact h2
  have hE : Hid (endsB n = false) := show _ = _ by unfold endsB; exact decide_eq_false (by omega)
  clear h1 h2
  go_enter Tryz.func237,Tryz.ntmps237
  go_wp2
  go_ret
  exact ⟨ret_bool hE.out.symm,rfl⟩
theorem timpl_self (n : Int) (w : World) : Calls Tryz.prog 153 #[.int .i64 n] w fun x w' => x = .returned (.int .i64 n) ∧ w' = w := by
  go_enter Tryz.func153,Tryz.ntmps153
  go_wp2
  go_ret
  exact ⟨rfl,rfl⟩
def findN (g : Int) (l : List Int) : Nat := l.findIdx (fun c => decide (g ≤ c))
def findNB (g : Int) (l : List Int) : Bool := match l[findN g l]? with | some c => c == g | none => false
def touchB (rs : List Int) (g : Int) : Bool := findNB g rs
def lowN (g : Int) (l : List Int) (k : Nat) : Prop := ∀ j,j < k → ∀ (h : j < l.length),l[j] < g
theorem findN_at {g : Int} {l : List Int} {k : Nat} (h : lowN g l k) (hk : k < l.length) (hg : g ≤ l[k]) : findN g l = k ∧ findNB g l = (l[k] == g) := by
  have e : findN g l = k := by
    unfold findN
    rw [List.findIdx_eq hk]
    exact ⟨by simpa using hg,fun j hj => by have := h j hj (by omega); simp; omega⟩
  refine ⟨e,?_⟩
  unfold findNB
  rw [e,List.getElem?_eq_getElem hk]
theorem findN_none {g : Int} {l : List Int} {k : Nat} (h : lowN g l k) (hk : l.length ≤ k) : findN g l = l.length ∧ findNB g l = false := by
  have e : findN g l = l.length := by
    unfold findN
    rw [List.findIdx_eq_length]
    intro x hx
    obtain ⟨j,hj,rfl⟩ := List.getElem_of_mem hx
    have := h j (by omega) hj
    simp; omega
  refine ⟨e,?_⟩
  unfold findNB
  rw [e,List.getElem?_eq_none (Nat.le_refl _)]
theorem findN_le (g : Int) (l : List Int) : findN g l ≤ l.length := List.findIdx_le_length
theorem findN_low (g : Int) (l : List Int) : lowN g l (findN g l) := fun j hj h => by
  have := List.not_of_lt_findIdx hj
  simp at this
  omega
theorem find_has {l : List Int} (h : upB l = true) (g : Int) : findNB g l = hasB l g := by
  by_cases hk : findN g l < l.length
  · have hg : g ≤ l[findN g l] := by
      have := List.findIdx_getElem (w := hk)
      exact of_decide_eq_true this
    rw [(findN_at (findN_low g l) hk hg).2]
    by_cases he : l[findN g l] = g
    · rw [has_yes hk he]; simpa using he
    · have h0 : hasB l g = false := has_no (k := l.length) (Nat.le_refl _) fun j _ hj e => by
        by_cases h1 : j < findN g l
        · have := findN_low g l j h1 hj; omega
        · by_cases h2 : j = findN g l
          · subst h2; exact he e
          · have := up_at h (show findN g l < j by omega) hj; omega
      rw [h0]
      simpa using he
  · have hle := findN_le g l
    rw [(findN_none (findN_low g l) (by omega)).2,has_no (k := l.length) (Nat.le_refl _)]
    intro j hj h1 e
    have := findN_low g l j (by omega) h1
    omega
set_option maxRecDepth 100000 in
set_option maxHeartbeats 2000000 in
theorem impl_findN (a : Option Addr) (n c : Nat) (g : Int) (l : List Int) (w : World) (hc : Nums w a n l) (hn : n ≤ 1048576) :
    Calls Tryz.prog 152 #[.slice a n c,.int .i64 g,.func (.func 153) #[] #[]] w fun x w' => x = .returned (.tuple #[.int .i64 (findN g l),.bool (findNB g l)]) ∧ w' = w := by
  have HC : Hid (Nums w a n l) := hc
  have HL : Hid (l.length = n) := hc.1
  clear hc
  go_enter Tryz.func152,Tryz.ntmps152
  go_wp2
  go_loop [12] (fun i => ∃ k : Nat,k ≤ n ∧ i = .int .i64 k ∧ Hid (lowN g l k)) (fun i => n - (intOf i).toNat)
  case atStart => exact ⟨0,by omega,rfl,fun j hj => by omega⟩
  case round =>
    obtain ⟨k,hkn,rfl,hr⟩ := hrel
    by_cases hlt : k < n
    · obtain ⟨b,off,rfl,hj,g1⟩ := nums_get HC.out (Below.refl _ _) (k := k) hlt
      have hY : g ≤ l[k] → Hid (findN g l = k) ∧ Hid (findNB g l = (l[k] == g)) := fun h => ⟨(findN_at hr.out hj h).1,(findN_at hr.out hj h).2⟩
      have hN : ¬ g ≤ l[k] → Hid (lowN g l (k + 1)) := fun h i hi h1 => by
        by_cases hik : i = k
        · subst hik; omega
        · exact hr.out i (by omega) h1
      obtain ⟨G1,e1⟩ : ∃ G,l[k] = G := ⟨_,rfl⟩
      rw [e1] at hY hN g1
      clear e1 hr hj
      by_cases hG : g ≤ G1
      · obtain ⟨hE,hF⟩ := hY hG
        clear hY hN
        go_wp2_with fail
        refine (timpl_self G1 _).mono ?_
        rintro x w1 ⟨rfl,hw1⟩
        rw [hw1]
        clear hw1 w1
        go_wp2_with fail
        refine (timpl_self G1 _).mono ?_
        rintro x w1 ⟨rfl,hw1⟩
        rw [hw1]
        clear hw1 w1
        go_wp2
        go_ret2
        refine ⟨?_,rfl⟩
        rw [hE.out,hF.out]
        rfl
      · have hE := hN hG
        clear hY hN
        go_wp2_with fail
        refine (timpl_self G1 _).mono ?_
        rintro x w1 ⟨rfl,hw1⟩
        rw [hw1]
        clear hw1 w1
        go_wp2
        exact ⟨⟨k + 1,by omega,by go_num,hE.out⟩,by simp [intOf]; omega⟩
    · have hE : Hid (findN g l = n) := show _ = _ by rw [(findN_none hr.out (by rw [HL.out]; omega)).1,HL.out]
      have hF : Hid (findNB g l = false) := (findN_none hr.out (by rw [HL.out]; omega)).2
      go_wp2
      go_ret2
      refine ⟨?_,rfl⟩
      rw [hE.out,hF.out]
      rfl
set_option maxRecDepth 100000 in
set_option maxHeartbeats 2000000 in
theorem impl_up (a : Option Addr) (n c : Nat) (l : List Int) (w : World) (hc : Nums w a n l) (hn : n ≤ 1048576) :
    Calls Tryz.prog 236 #[.slice a n c,.func (.func 153) #[] #[]] w fun x w' => x = .returned (.bool (upB l)) ∧ Below w.heap.size w w' := by
  have HC : Hid (Nums w a n l) := hc
  have HL : Hid (l.length = n) := hc.1
  clear hc
  go_enter Tryz.func236,Tryz.ntmps236
  go_wp2
  go_loopw [5] (fun i wr => ∃ k : Nat,1 ≤ k ∧ (k ≤ n ∨ k = 1) ∧ i = .int .i64 k ∧ Hid (upTo l k) ∧ Hid (Below w.heap.size w wr)) (fun i _ => n - (intOf i).toNat)
  case atStart => exact ⟨1,by omega,by omega,rfl,fun j hj => by omega,Below.refl _ _⟩
  case round =>
    obtain ⟨k,hk1,hkn,rfl,hr,hw⟩ := hrel
    by_cases hlt : k < n
    · obtain ⟨j,rfl⟩ : ∃ j,k = j + 1 := ⟨k - 1,by omega⟩
      obtain ⟨b,off,rfl,hj,g1⟩ := nums_get HC.out hw.out (k := j) (by omega)
      obtain ⟨b',off',e',hj',g2⟩ := nums_get HC.out hw.out (k := j + 1) hlt
      obtain ⟨rfl,rfl⟩ : b' = b ∧ off' = off := by simp at e'; omega
      clear e'
      have hY : l[j] < l[j + 1] → Hid (upTo l (j + 1 + 1)) := fun h => upTo_succ hr.out hj' h
      have hN : ¬ l[j] < l[j + 1] → Hid (upB l = false) := fun h => up_no hj' h
      obtain ⟨G1,e1⟩ : ∃ G,l[j] = G := ⟨_,rfl⟩
      obtain ⟨G2,e2⟩ : ∃ G,l[j + 1] = G := ⟨_,rfl⟩
      rw [e1,e2] at hY hN
      rw [e1] at g1
      rw [e2] at g2
      clear e1 e2 hr hj hj'
      have hW1 : IntKind.i64.wrap (j : Int) = (j : Int) := twrap_in _ (by omega) (by omega)
      have hjn : (j : Int) < (n : Int) := by omega
      by_cases hG : G1 < G2
      · have hR := hY hG
        have hG' : decide (G2 ≤ G1) = false := decide_eq_false (by omega)
        clear hY hN
        go_wp2
        go_quiet (first | (go_at_call 153; exact Calls.quiet_of_same (timpl_self _ _)))
        go_wp2
        exact ⟨⟨j + 1 + 1,by omega,by omega,by go_num,hR.out,tbelow_dn hw.out _⟩,by simp [intOf]; omega⟩
      · have hR := hN hG
        have hG' : decide (G2 ≤ G1) = true := decide_eq_true (by omega)
        clear hY hN
        go_wp2
        go_quiet (first | (go_at_call 153; exact Calls.quiet_of_same (timpl_self _ _)))
        go_wp2
        go_ret
        exact ⟨ret_bool hR.out.symm,tbelow_dn hw.out _⟩
    · have hR : Hid (upB l = true) := up_yes hr.out (by rw [HL.out]; omega)
      go_wp2
      go_ret
      exact ⟨ret_bool hR.out.symm,hw.out⟩
def fitTo (f : Int → Bool) (l : List Int) (k : Nat) : Prop := ∀ j,j < k → ∀ (h : j < l.length),f l[j] = true
theorem fit_no {f : Int → Bool} {l : List Int} {k : Nat} (hk : k < l.length) (h : f l[k] = false) : l.all f = false := by
  rw [List.all_eq_false]
  exact ⟨l[k],List.getElem_mem hk,by simp [h]⟩
theorem fit_yes {f : Int → Bool} {l : List Int} {k : Nat} (hk : l.length ≤ k) (h : fitTo f l k) : l.all f = true := by
  rw [List.all_eq_true]
  intro x hx
  obtain ⟨j,hj,rfl⟩ := List.getElem_of_mem hx
  exact h j (by omega) hj
theorem timpl_rnum' (n : Int) (w : World) : Calls Tryz.prog 151 #[.int .i64 n] w fun x w' => x = .returned (.bool (rnum n)) ∧ Below w.heap.size w w' :=
  (timpl_rnum n w).mono fun _ _ h => ⟨h.1,by rw [h.2]; exact Below.refl _ _⟩
set_option maxRecDepth 100000 in
set_option maxHeartbeats 2000000 in
theorem impl_risingR (a : Option Addr) (n c : Nat) (l : List Int) (w : World) (h : Nums w a n l) (hn : n ≤ 1048576) :
    Calls Tryz.prog 217 #[.slice a n c,.func (.func 151) #[] #[]] w fun x w' => x = .returned (.bool (l.all rnum && upB l)) ∧ Below w.heap.size w w' := by
  have HC : Hid (Nums w a n l) := h
  have HL : Hid (l.length = n) := h.1
  clear h
  go_enter Tryz.func217,Tryz.ntmps217
  go_wp2
  go_loopw [9] (fun i wr => ∃ k : Nat,k ≤ n ∧ i = .int .i64 k ∧ Hid (fitTo rnum l k) ∧ Hid (Below w.heap.size w wr)) (fun i _ => n - (intOf i).toNat)
  case atStart => exact ⟨0,by omega,rfl,fun j hj => by omega,Below.refl _ _⟩
  case round =>
    obtain ⟨k,hkn,rfl,hr,hw⟩ := hrel
    by_cases hlt : k < n
    · obtain ⟨b,off,rfl,hj,g1⟩ := nums_get HC.out hw.out (k := k) hlt
      have hN : rnum l[k] = false → Hid ((l.all rnum && upB l) = false) := fun h => by show _ = _; rw [fit_no hj h]; simp
      have hY : rnum l[k] = true → Hid (fitTo rnum l (k + 1)) := fun h i hi h1 => by
        by_cases hik : i = k
        · subst hik; exact h
        · exact hr.out i (by omega) h1
      have HF : Hid _ := fun W (hb : Below w.heap.size w W) => (fun (x : Int) (W : World) (_ : Below w.heap.size w W) => timpl_rnum' x W) l[k] W hb
      obtain ⟨T,hT⟩ : ∃ T,rnum l[k] = T := ⟨_,rfl⟩
      rw [hT] at hN hY HF
      clear hT
      obtain ⟨V,e1⟩ : ∃ V,l[k] = V := ⟨_,rfl⟩
      rw [e1] at g1 HF
      clear e1 hr hj
      cases T
      · have hE := hN rfl
        clear hN hY
        go_wp2_with fail
        refine (HF.out _ hw.out).mono ?_
        rintro x w1 ⟨rfl,hb1⟩
        have hB1 : Hid (Below w.heap.size w w1) := tbelow_tr hw.out hb1
        clear hb1
        go_wp2
        go_ret
        exact ⟨ret_bool hE.out.symm,hB1.out⟩
      · have hE := hY rfl
        clear hN hY
        go_wp2_with fail
        refine (HF.out _ hw.out).mono ?_
        rintro x w1 ⟨rfl,hb1⟩
        have hB1 : Hid (Below w.heap.size w w1) := tbelow_tr hw.out hb1
        clear hb1
        go_wp2
        exact ⟨⟨k + 1,by omega,by go_num,hE.out,hB1.out⟩,by simp [intOf]; omega⟩
    · have hE : Hid ((l.all rnum && upB l) = upB l) := show _ = _ by rw [fit_yes (by rw [HL.out]; omega) hr.out]; simp
      have HU : Hid _ := fun w h => impl_up a n c l w h hn
      obtain ⟨T,hT⟩ : ∃ T,upB l = T := ⟨_,rfl⟩
      have HT : Hid (upB l = T) := hT
      rw [hT] at HU
      clear hT hr
      go_wp2_with fail
      refine (HU.out _ (nums_below HC.out hw.out)).mono ?_
      rintro x w1 ⟨rfl,hb1⟩
      have hB1 : Hid (Below w.heap.size w w1) := tbelow_tr hw.out hb1
      clear hb1
      go_wp2
      go_ret
      exact ⟨ret_bool (by rw [hE.out,HT.out]),hB1.out⟩
theorem impl_touchedBy (w : World) :
    Calls Tryz.prog 146 #[txnV p e s u ra rl rc la ll lc] w fun x w' => x = .returned (.func (.func 198) #[] #[.pointer (some ⟨w.heap.size,0,none⟩)]) ∧ w' = w.alloc (txnObj p e s u ra rl rc la ll lc) := by
  have hmf : ∀ (fn : Fn) (first cap : Array Value) (w : World),(Instr.makeFunc fn first cap).run Tryz.prog w = .ok (.func fn first cap) w := fun _ _ _ _ => rfl
  go_enter Tryz.func146,Tryz.ntmps146
  go_wp2
  go_ret
  exact ⟨rfl,rfl⟩
set_option maxHeartbeats 1000000 in
theorem impl_touched (B : Nat) (g : Int) (rs : List Int) (w : World) (hb : w.heap[B]? = some (txnObj p e s u ra rl rc la ll lc)) (hr : Nums w ra rl rs) (hn : rl ≤ 1048576) :
    Calls Tryz.prog 198 #[.int .i64 g,.pointer (some ⟨B,0,none⟩)] w fun x w' => x = .returned (.bool (touchB rs g)) ∧ w' = w := by
  have HR : Hid (Nums w ra rl rs) := hr
  have c4 : w.cell? ⟨B,4,none⟩ = some (.slice ra rl rc) := by simp [World.cell?,hb]
  clear hr hb
  go_enter Tryz.func198,Tryz.ntmps198
  go_wp2_with fail
  refine (impl_findN ra rl rc g rs _ HR.out hn).mono ?_
  rintro x w1 ⟨rfl,hw1⟩
  rw [hw1]
  clear hw1 w1
  go_wp2
  go_ret
  exact ⟨rfl,rfl⟩
theorem impl_touched' (B : Nat) (rs : List Int) (w : World) (hb : w.heap[B]? = some (txnObj p e s u ra rl rc la ll lc)) (hr : Nums w ra rl rs) (hn : rl ≤ 1048576) (g : Int) (W : World) (hB : Below w.heap.size w W) :
    Calls Tryz.prog 198 #[.int .i64 g,.pointer (some ⟨B,0,none⟩)] W fun x w' => x = .returned (.bool (touchB rs g)) ∧ Below W.heap.size W w' :=
  (impl_touched B g rs W ((hB.block B (Array.getElem?_eq_some_iff.1 hb).1).trans hb) (nums_below hr hB) hn).mono fun _ _ h => ⟨h.1,by rw [h.2]; exact Below.refl _ _⟩
set_option maxRecDepth 100000 in
set_option maxHeartbeats 2000000 in
theorem impl_risingT (B : Nat) (rs : List Int) (a : Option Addr) (n c : Nat) (l : List Int) (w : World) (h : Nums w a n l) (hn : n ≤ 1048576) (hb : w.heap[B]? = some (txnObj p e s u ra rl rc la ll lc)) (hrs : Nums w ra rl rs) (hrl : rl ≤ 1048576) :
    Calls Tryz.prog 217 #[.slice a n c,.func (.func 198) #[] #[.pointer (some ⟨B,0,none⟩)]] w fun x w' => x = .returned (.bool (l.all (touchB rs) && upB l)) ∧ Below w.heap.size w w' := by
  have HC : Hid (Nums w a n l) := h
  have HL : Hid (l.length = n) := h.1
  clear h
  have HT0 : Hid (∀ (g : Int) (W : World),Below w.heap.size w W → Calls Tryz.prog 198 #[.int .i64 g,.pointer (some ⟨B,0,none⟩)] W fun x w' => x = .returned (.bool (touchB rs g)) ∧ Below W.heap.size W w') := fun g W hB => impl_touched' B rs w hb hrs hrl g W hB
  clear hb hrs
  go_enter Tryz.func217,Tryz.ntmps217
  go_wp2
  go_loopw [9] (fun i wr => ∃ k : Nat,k ≤ n ∧ i = .int .i64 k ∧ Hid (fitTo (touchB rs) l k) ∧ Hid (Below w.heap.size w wr)) (fun i _ => n - (intOf i).toNat)
  case atStart => exact ⟨0,by omega,rfl,fun j hj => by omega,Below.refl _ _⟩
  case round =>
    obtain ⟨k,hkn,rfl,hr,hw⟩ := hrel
    by_cases hlt : k < n
    · obtain ⟨b,off,rfl,hj,g1⟩ := nums_get HC.out hw.out (k := k) hlt
      have hN : (touchB rs) l[k] = false → Hid ((l.all (touchB rs) && upB l) = false) := fun h => by show _ = _; rw [fit_no hj h]; simp
      have hY : (touchB rs) l[k] = true → Hid (fitTo (touchB rs) l (k + 1)) := fun h i hi h1 => by
        by_cases hik : i = k
        · subst hik; exact h
        · exact hr.out i (by omega) h1
      have HF : Hid _ := fun W (hb : Below w.heap.size w W) => HT0.out l[k] W hb
      obtain ⟨T,hT⟩ : ∃ T,(touchB rs) l[k] = T := ⟨_,rfl⟩
      rw [hT] at hN hY HF
      clear hT
      obtain ⟨V,e1⟩ : ∃ V,l[k] = V := ⟨_,rfl⟩
      rw [e1] at g1 HF
      clear e1 hr hj
      cases T
      · have hE := hN rfl
        clear hN hY
        go_wp2_with fail
        refine (HF.out _ hw.out).mono ?_
        rintro x w1 ⟨rfl,hb1⟩
        have hB1 : Hid (Below w.heap.size w w1) := tbelow_tr hw.out hb1
        clear hb1
        go_wp2
        go_ret
        exact ⟨ret_bool hE.out.symm,hB1.out⟩
      · have hE := hY rfl
        clear hN hY
        go_wp2_with fail
        refine (HF.out _ hw.out).mono ?_
        rintro x w1 ⟨rfl,hb1⟩
        have hB1 : Hid (Below w.heap.size w w1) := tbelow_tr hw.out hb1
        clear hb1
        go_wp2
        exact ⟨⟨k + 1,by omega,by go_num,hE.out,hB1.out⟩,by simp [intOf]; omega⟩
    · have hE : Hid ((l.all (touchB rs) && upB l) = upB l) := show _ = _ by rw [fit_yes (by rw [HL.out]; omega) hr.out]; simp
      have HU : Hid _ := fun w h => impl_up a n c l w h hn
      obtain ⟨T,hT⟩ : ∃ T,upB l = T := ⟨_,rfl⟩
      have HT : Hid (upB l = T) := hT
      rw [hT] at HU
      clear hT hr
      go_wp2_with fail
      refine (HU.out _ (nums_below HC.out hw.out)).mono ?_
      rintro x w1 ⟨rfl,hb1⟩
      have hB1 : Hid (Below w.heap.size w w1) := tbelow_tr hw.out hb1
      clear hb1
      go_wp2
      go_ret
      exact ⟨ret_bool (by rw [hE.out,HT.out]),hB1.out⟩
end Go.Proofs.YtahccighonddaaaGreatDoor
namespace Go.Proofs.YtahccighonddaaaGreatDoor
open Go.RowKit
variable {p e s u : Int} {ra la : Option Addr} {rl rc ll lc : Nat}
def leftB (s : Int) (rs ls : List Int) : Bool := if s = 1 then decide (ls.length = 0) else endsB s && (ls.all (touchB rs) && upB ls)
theorem tcell {w : World} {g : Nat} {C : Array Value} {t : TypeId} (h : w.heap[g]? = some (.cells C t (0,0))) (o : Nat) : w.cell? ⟨g,o,none⟩ = C[o]? := by
  simp [World.cell?,h]
theorem tunfrozen {w : World} {g : Nat} {C : Array Value} {t : TypeId} (h : w.heap[g]? = some (.cells C t (0,0))) (o : Nat) : w.frozen? ⟨g,o,none⟩ = false := by
  simp [World.frozen?,h]
theorem tblk_lt {u : World} {i : Nat} {o : Obj} (h : u.heap[i]? = some o) : i < u.heap.size := (Array.getElem?_eq_some_iff.1 h).1
theorem tblk {u v : World} {i : Nat} {o : Obj} (h : u.heap[i]? = some o) (hb : Below u.heap.size u v) : v.heap[i]? = some o := (hb.block i (tblk_lt h)).trans h
set_option maxRecDepth 100000 in
set_option maxHeartbeats 2000000 in
theorem impl_leftRight (rs ls : List Int) (w : World) (hi : TIn w ra rl la ll rs ls) :
    Calls Tryz.prog 218 #[txnV p e s u ra rl rc la ll lc] w fun x w' => x = .returned (.bool (leftB s rs ls)) ∧ Below w.heap.size w w' := by
  have HI : Hid (TIn w ra rl la ll rs ls) := hi
  have hrl : rl ≤ 1048576 := hi.rle
  have hll : ll ≤ 1048576 := hi.lle
  have HL : Hid (ls.length = ll) := hi.ls.1
  clear hi
  by_cases hs : s = 1
  · subst hs
    have hE : Hid (leftB 1 rs ls = ((ll : Int) == 0)) := show _ = _ by
      rw [Bool.eq_iff_iff]
      simp [leftB,HL.out]
    go_enter Tryz.func218,Tryz.ntmps218
    go_wp2
    go_ret
    exact ⟨ret_bool hE.out.symm,tbelow_new _ _⟩
  · have hs' : (s == 1) = false := by simpa using hs
    have HG : Hid (leftB s rs ls = (endsB s && (ls.all (touchB rs) && upB ls))) := if_neg hs
    have HE : Hid _ := fun w => timpl_ends s w
    have HB0 : Hid (Below w.heap.size w (w.alloc (txnObj p e s u ra rl rc la ll lc))) := tbelow_new _ _
    have HK0 : Hid ((w.alloc (txnObj p e s u ra rl rc la ll lc)).heap[w.heap.size]? = some (txnObj p e s u ra rl rc la ll lc)) := heap_alloc_new _ _
    have HT : Hid _ := fun w => impl_touchedBy (p := p) (e := e) (s := s) (u := u) (ra := ra) (la := la) (rl := rl) (rc := rc) (ll := ll) (lc := lc) w
    have HR : Hid _ := fun w B h hb hrs => impl_risingT (p := p) (e := e) (s := s) (u := u) (ra := ra) (la := la) (rl := rl) (rc := rc) (ll := ll) (lc := lc) B rs la ll lc ls w h hll hb hrs hrl
    obtain ⟨T,hT⟩ : ∃ T,endsB s = T := ⟨_,rfl⟩
    obtain ⟨A,hA⟩ : ∃ A,(ls.all (touchB rs) && upB ls) = A := ⟨_,rfl⟩
    rw [hT] at HG HE
    rw [hA] at HG HR
    clear hT hA hs
    cases T
    · have hE : Hid (leftB s rs ls = false) := HG.out.trans (by simp)
      clear HG HR
      go_enter Tryz.func218,Tryz.ntmps218
      go_upto_region 3 with fail
      go_cut [2] (fun t wc => t = .bool false ∧ Hid (Below w.heap.size w wc))
      case first =>
        first | (go_region_with (go_at_call 237; refine (HE.out _).mono ?_; rintro x w1 ⟨rfl,hw1⟩; rw [hw1]; clear hw1 w1)) | fail
        all_goals (go_wp2_with fail; go_meet; exact ⟨rfl,HB0.out.drew⟩)
      case rest =>
      obtain ⟨rfl,hS⟩ := hcut
      go_wp2
      go_ret
      exact ⟨ret_bool hE.out.symm,hS.out⟩
    · have hE : Hid (leftB s rs ls = A) := HG.out.trans (by simp)
      clear HG
      go_enter Tryz.func218,Tryz.ntmps218
      have HI0 : Hid (TIn (w.alloc (txnObj p e s u ra rl rc la ll lc)).drew ra rl la ll rs ls) := HI.out.below HB0.out.drew
      have HB1 : Hid (Below w.heap.size w ((w.alloc (txnObj p e s u ra rl rc la ll lc)).drew.alloc (txnObj p e s u ra rl rc la ll lc))) := tbelow_tr HB0.out.drew (tbelow_new _ _)
      have HI1 : Hid (TIn ((w.alloc (txnObj p e s u ra rl rc la ll lc)).drew.alloc (txnObj p e s u ra rl rc la ll lc)) ra rl la ll rs ls) := HI.out.below HB1.out
      have HK1 : Hid (((w.alloc (txnObj p e s u ra rl rc la ll lc)).drew.alloc (txnObj p e s u ra rl rc la ll lc)).heap[w.heap.size + 1]? = some (txnObj p e s u ra rl rc la ll lc)) := by
        have h := heap_alloc_new (w.alloc (txnObj p e s u ra rl rc la ll lc)).drew (txnObj p e s u ra rl rc la ll lc)
        have hz : (w.alloc (txnObj p e s u ra rl rc la ll lc)).drew.heap.size = w.heap.size + 1 := World.size_alloc _ _
        rwa [hz] at h
      go_upto_region 3 with fail
      go_cut [2] (fun t wc => t = .bool A ∧ Hid (Below w.heap.size w wc))
      case first =>
        first | (go_region_with (first
          | (go_at_call 237; refine (HE.out _).mono ?_; rintro x w1 ⟨rfl,hw1⟩; rw [hw1]; clear hw1 w1)
          | (go_at_call 146; refine (HT.out _).mono ?_; rintro x w1 ⟨rfl,hw1⟩; rw [hw1]; clear hw1 w1)
          | (go_at_call 217; refine (HR.out _ (w.heap.size + 1) HI1.out.ls HK1.out HI1.out.rs).mono ?_; rintro x w2 ⟨rfl,hb2⟩; have HB2 : Hid (Below w.heap.size w w2) := tbelow_tr HB1.out hb2; clear hb2))) | fail
        all_goals (go_wp2_with fail; go_meet; exact ⟨rfl,HB2.out⟩)
      case rest =>
      obtain ⟨rfl,hS⟩ := hcut
      go_wp2
      go_ret
      exact ⟨ret_bool hE.out.symm,hS.out⟩
theorem left_same {s : Int} {rs ls : List Int} (h3 : ringsB rs = true) : leftB s rs ls = (decide (1 ≤ s ∧ s ≤ 3) && ringsB ls && ls.all (hasB rs) && (decide (s ≠ 1) || decide (ls.length = 0))) := by
  have hup : upB rs = true := by simp [ringsB] at h3; exact h3.2
  have hrn : ∀ x ∈ rs,rnum x = true := by simp [ringsB] at h3; exact h3.1
  have ht : ls.all (touchB rs) = ls.all (hasB rs) := by
    congr 1
    funext x
    exact find_has hup x
  unfold leftB
  by_cases hs : s = 1
  · subst hs
    rw [if_pos rfl]
    cases ls with
    | nil => simp [ringsB,upB]
    | cons x r => simp
  · rw [if_neg hs,ht]
    have he : endsB s = decide (1 ≤ s ∧ s ≤ 3) := by
      unfold endsB
      rw [Bool.eq_iff_iff]
      simp
      omega
    rw [he,decide_eq_true hs]
    by_cases hh : ls.all (hasB rs) = true
    · have hl : ls.all rnum = true := by
        rw [List.all_eq_true] at hh ⊢
        intro x hx
        have := hh x hx
        unfold hasB at this
        rw [List.any_eq_true] at this
        obtain ⟨y,hy,e⟩ := this
        rw [← (beq_iff_eq.1 e)]
        exact hrn y hy
      simp [ringsB,hl,hh]
    · have hh' : ls.all (hasB rs) = false := by simpa using hh
      simp [hh']
set_option maxRecDepth 100000 in
set_option maxHeartbeats 2000000 in
theorem impl_txnRight (rs ls : List Int) (w : World) (hi : TIn w ra rl la ll rs ls) :
    Calls Tryz.prog 186 #[txnV p e s u ra rl rc la ll lc] w fun x w' => x = .returned (.bool (txnRightB p e s u rs ls)) ∧ Below w.heap.size w w' := by
  have HI : Hid (TIn w ra rl la ll rs ls) := hi
  have hrl : rl ≤ 1048576 := hi.rle
  have HLR : Hid _ := fun w (h : TIn w ra rl la ll rs ls) => impl_leftRight (p := p) (e := e) (s := s) (u := u) (rc := rc) (lc := lc) rs ls w h
  clear hi
  have HB0 : Hid (Below w.heap.size w (w.alloc (txnObj p e s u ra rl rc la ll lc))) := tbelow_new _ _
  have H1 : Hid _ := fun w => timpl_prod p w
  have H4 : Hid _ := fun w => timpl_time u w
  by_cases h1 : 1 ≤ p ∧ p ≤ 4
  · rw [decide_eq_true h1] at H1
    by_cases h2 : 1 ≤ e
    · by_cases h2' : e ≤ 1000000
      · by_cases h4 : 0 ≤ u ∧ u ≤ 1000000
        · rw [decide_eq_true h4] at H4
          have HG : Hid (txnRightB p e s u rs ls = (ringsB rs && leftB s rs ls)) := show _ = _ by
            by_cases h3 : ringsB rs = true
            · rw [left_same h3,h3]
              simp only [txnRightB,h1,h2,h2',h4,h3,and_self,decide_true,Bool.true_and,Bool.and_true]
            · have h3' : ringsB rs = false := by simpa using h3
              simp [txnRightB,h3']
          have HR : Hid _ := fun w h => impl_risingR ra rl rc rs w h hrl
          rw [show (rs.all rnum && upB rs) = ringsB rs from rfl] at HR
          obtain ⟨R,hR⟩ : ∃ R,ringsB rs = R := ⟨_,rfl⟩
          obtain ⟨L,hL⟩ : ∃ L,leftB s rs ls = L := ⟨_,rfl⟩
          rw [hR] at HR HG
          rw [hL] at HLR HG
          clear hR hL h1 h4
          go_enter Tryz.func186,Tryz.ntmps186
          go_wp2_with fail
          refine (H1.out _).mono ?_
          rintro x w1 ⟨rfl,hw1⟩
          rw [hw1]
          clear hw1 w1
          go_wp2_with fail
          refine (H4.out _).mono ?_
          rintro x w1 ⟨rfl,hw1⟩
          rw [hw1]
          clear hw1 w1
          go_wp2_with fail
          refine (HR.out _ (nums_below HI.out.rs HB0.out)).mono ?_
          rintro x w1 ⟨rfl,hb1⟩
          have HB1 : Hid (Below w.heap.size w w1) := tbelow_tr HB0.out hb1
          have hK1 := tblk (heap_alloc_new w (txnObj p e s u ra rl rc la ll lc)) hb1
          have hc1 := fun o => tcell hK1 o
          clear hb1 hK1
          cases R
          · have hE : Hid (txnRightB p e s u rs ls = false) := HG.out.trans (by simp)
            clear HG
            go_wp2
            go_ret
            exact ⟨ret_bool hE.out.symm,HB1.out⟩
          · have hE : Hid (txnRightB p e s u rs ls = L) := HG.out.trans (by simp)
            clear HG
            go_wp2_with fail
            refine (HLR.out _ (HI.out.below HB1.out)).mono ?_
            rintro x w2 ⟨rfl,hb2⟩
            have HB2 : Hid (Below w.heap.size w w2) := tbelow_tr HB1.out hb2
            clear hb2
            go_wp2
            go_ret
            exact ⟨ret_bool hE.out.symm,HB2.out⟩
        · rw [decide_eq_false h4] at H4
          have hE : Hid (txnRightB p e s u rs ls = false) := show _ = _ by simp [txnRightB,h4]
          clear h1 h4
          go_enter Tryz.func186,Tryz.ntmps186
          go_wp2_with fail
          refine (H1.out _).mono ?_
          rintro x w1 ⟨rfl,hw1⟩
          rw [hw1]
          clear hw1 w1
          go_wp2_with fail
          refine (H4.out _).mono ?_
          rintro x w1 ⟨rfl,hw1⟩
          rw [hw1]
          clear hw1 w1
          go_wp2
          go_ret
          exact ⟨ret_bool hE.out.symm,HB0.out⟩
      · have hE : Hid (txnRightB p e s u rs ls = false) := show _ = _ by simp [txnRightB,h2']
        clear h1
        go_enter Tryz.func186,Tryz.ntmps186
        go_wp2_with fail
        refine (H1.out _).mono ?_
        rintro x w1 ⟨rfl,hw1⟩
        rw [hw1]
        clear hw1 w1
        go_wp2
        go_ret
        exact ⟨ret_bool hE.out.symm,HB0.out⟩
    · have hE : Hid (txnRightB p e s u rs ls = false) := show _ = _ by simp [txnRightB,h2]
      clear h1
      go_enter Tryz.func186,Tryz.ntmps186
      go_wp2_with fail
      refine (H1.out _).mono ?_
      rintro x w1 ⟨rfl,hw1⟩
      rw [hw1]
      clear hw1 w1
      go_wp2
      go_ret
      exact ⟨ret_bool hE.out.symm,HB0.out⟩
  · rw [decide_eq_false h1] at H1
    have hE : Hid (txnRightB p e s u rs ls = false) := show _ = _ by simp [txnRightB,h1]
    clear h1
    go_enter Tryz.func186,Tryz.ntmps186
    go_wp2_with fail
    refine (H1.out _).mono ?_
    rintro x w1 ⟨rfl,hw1⟩
    rw [hw1]
    clear hw1 w1
    go_wp2
    go_ret
    exact ⟨ret_bool hE.out.symm,HB0.out⟩
end Go.Proofs.YtahccighonddaaaGreatDoor
