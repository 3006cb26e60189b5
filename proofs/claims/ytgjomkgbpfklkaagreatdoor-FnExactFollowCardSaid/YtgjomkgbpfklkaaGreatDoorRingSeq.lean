/- The places of a ring at work, gone through: the iterator's contract. -/
import Derived.Test.YtgjomkgbpfklkaaGreatDoorRingWork6
import Derived.Test.YtgjomkgbpfklkaaGreatDoorRecRead2
import Derived.RangeFuncNested
import Derived.RangeFuncBound
import Derived.RangeFuncCalls
import Derived.RangeFuncLeaves
import Derived.Shelf.Abstract
import Derived.Shelf.RegionOpen
import Derived.WalkKit
import Derived.OwnWalkIn
import Derived.TacticsInMore
import Derived.LoopNIn
import Derived.LoopIn
namespace Go.Proofs.YtgjomkgbpfklkaaGreatDoor
open Go.RowKit Go.Shelf
attribute [local go_sem] Oper.semAt_some
variable {cap first : Int} {ra ca : Option Addr} {rl rc cl cc : Nat}

/-- What RecRead gives of a text, beside its code. -/
def recOf (s : ByteArray) : Int × Int × ByteArray := ((readRes s).1, (readRes s).2.1, (readRes s).2.2.1)
theorem readRes_cases (s : ByteArray) : (∃ c, c ≠ 0 ∧ readRes s = (0, 0, ⟨#[]⟩, c)) ∨ (∃ k t d, readRes s = (k, t, d, 0) ∧ recRightB k t d = true) := by
  unfold readRes
  split
  · exact .inl ⟨2, by omega, rfl⟩
  split
  · exact .inl ⟨4, by omega, rfl⟩
  split
  · exact .inl ⟨5, by omega, rfl⟩
  · rcases recOfRes_cases (s.extract 0 (s.size - 4)) with h | ⟨k, t, d, h, hr, hk⟩
    · rw [h]; exact .inl ⟨3, by omega, rfl⟩
    · rw [h]
      refine .inr ⟨k, t, d, ?_, hr⟩
      show (if k = 0 then _ else _) = _
      rw [if_neg hk]
theorem recOf_small (s : ByteArray) : (recOf s).2.2.size ≤ 16 := by
  unfold recOf
  rcases readRes_cases s with ⟨c, _, h⟩ | ⟨k, t, d, h, hr⟩
  · rw [h]; exact Nat.zero_le _
  · rw [h]
    simp [recRightB] at hr
    exact hr.1.2
/-- A place and its record. -/
abbrev PRec := { x : Int × Int × Int × ByteArray // x.2.2.2.size ≤ 16 }
abbrev encP (x : PRec) : Array Value := #[.int .i64 x.1.1, recV x.1.2.1 x.1.2.2.1 x.1.2.2.2]
def pRec (first : Int) (recs : List ByteArray) (j : Nat) : PRec := ⟨(first + (j : Int), recOf (recs.getD j ⟨#[]⟩)), recOf_small _⟩
def upto {α : Type} (f : Nat → α) (k : Nat) : List α := (List.range k).map f
theorem upto_succ {α : Type} (f : Nat → α) (k : Nat) : upto f (k + 1) = upto f k ++ [f k] := by simp [upto, List.range_succ]
theorem upto_length {α : Type} (f : Nat → α) (k : Nat) : (upto f k).length = k := by simp [upto]

theorem impl_recs (b : Nat) (w : World) :
    Calls Tryz.prog 63 #[.pointer (some ⟨b, 0, none⟩)] w fun e w' => e = .returned (.func (.func 103) #[] #[.pointer (some ⟨w.heap.size, 0, none⟩)]) ∧ w' = w.alloc (.cells #[.pointer (some ⟨b, 0, none⟩)] 67) := by
  have hmf : ∀ (fn : Fn) (first cap : Array Value) (w : World), (Instr.makeFunc fn first cap).run Tryz.prog w = .ok (.func fn first cap) w := fun _ _ _ _ => rfl
  go_enter Tryz.func63, Tryz.ntmps63
  go_wp2
  go_ret
  exact ⟨rfl, rfl⟩
theorem field_rec (k t : Int) (d : ByteArray) (c : Int) (w : World) : (Instr.field 90 (recOut k t d c) 0).run Tryz.prog w = .ok (recV k t d) w := by kernel_rfl
/-- How a round ends: it goes on, or it has said no more. -/
def Out (n₀ : Nat) (J Jx : List PRec → World → Prop) (pre : List PRec) (W : World) (v : Bool) (W' : World) : Prop := (v = true ∧ J pre W' ∧ Below n₀ W W') ∨ (v = false ∧ Jx pre W')
set_option maxRecDepth 100000 in
set_option maxHeartbeats 4000000 in
theorem recs_in (n l Bs n₀ b : Nat) (hn : 1 ≤ n) (d st lp : Int) (recs : List ByteArray) (J Jx : List PRec → World → Prop) (W : World) (hJ : AbidesFrom W.heap.size J)
    (hY : ∀ pre x W1, J pre W1 → pre.length < rl → YieldAt Fence.wide (n - 1) Tryz.prog l (encP x) W1 fun e W' =>
      (e = .returned (.bool true) ∧ J (pre ++ [x]) W' ∧ Below n₀ W1 W') ∨ (e = .returned (.bool false) ∧ Jx (pre ++ [x]) W'))
    (hn₀ : n₀ ≤ W.heap.size) (hBs : W.cell? ⟨Bs, 0, none⟩ = some (.pointer (some ⟨b, 0, none⟩))) (hBn : Bs < n₀) (hw : Work W b cap first ra rl rc ca cl cc d st lp) (hbn : b < n₀)
    (hr : Strs W ra rl recs) (hrn : ∀ x, ra = some x → x.block < n₀) (hs : ∀ s ∈ recs, s.size ≤ maxLen) (hTn : ∀ W', Below n₀ W W' → utabs W') (h : 0 ≤ first ∧ first ≤ 1000000) (hl : rl ≤ 1048576) (h0 : J [] W) :
    CallsIn Fence.wide n Tryz.prog 103 #[.func (.yield l) #[] #[], .pointer (some ⟨Bs, 0, none⟩)] W fun e W' => (∃ v, e = .returned v) ∧
      ((∃ ys, ys = upto (pRec first recs) rl ∧ J ys W') ∨ (∃ pre, (∃ k, k ≤ rl ∧ pre = upto (pRec first recs) k) ∧ Jx pre W')) := by
  obtain ⟨c0, c1, c2, c3, c4, c5, c6, c7⟩ := work_cells hw
  have HJ : Hid (AbidesFrom W.heap.size J) := hJ
  have HY : Hid _ := hY
  have HR : Hid (Strs W ra rl recs) := hr
  have HS : Hid (∀ s ∈ recs, s.size ≤ maxLen) := hs
  have HT : Hid (∀ W', Below n₀ W W' → utabs W') := hTn
  have H0 : Hid (J [] W) := h0
  have HL : Hid (recs.length = rl) := hr.1
  have HRN : Hid (∀ x, ra = some x → x.block < n₀) := hrn
  clear hY hr hs hTn h0 hJ hw hrn
  refine callsIn_of_wp Tryz.func103 rfl trivial ?_ rfl
  simp only [Tryz.ntmps103, List.size_toArray, List.length_cons, List.length_nil, Nat.reduceAdd, Nat.reduceSub, Array.replicate_succ, Array.replicate_zero, List.push_toArray, List.append_toArray, List.nil_append, List.cons_append]
  gi_wp2
  gi_loopw [11] (fun i wr => ∃ k : Nat, k ≤ rl ∧ i = .int .i64 k ∧ Hid (J (upto (pRec first recs) k) wr) ∧ Hid (Below n₀ W wr)) (fun i _ => rl - (intOf i).toNat)
  case atStart => exact ⟨0, Nat.zero_le _, rfl, H0.out, Below.refl _ _⟩
  case round =>
    obtain ⟨k, hk, rfl, hJs, hnx⟩ := hrel
    by_cases hlt : k < rl
    · have hkl : k < recs.length := by rw [HL.out]; exact hlt
      obtain ⟨bb, off, e, hc⟩ := HR.out.2 k hkl
      subst e
      have hbb : bb < n₀ := HRN.out _ rfl
      have hcx : wr.cell? ⟨bb, off + k, none⟩ = some (.string recs[k]) := (hnx.out.cell (p := ⟨bb, off + k, none⟩) hbb).trans hc
      have hx1 : wr.cell? ⟨Bs, 0, none⟩ = some (.pointer (some ⟨b, 0, none⟩)) := (hnx.out.cell (p := ⟨Bs, 0, none⟩) hBn).trans hBs
      have hx2 : wr.cell? ⟨b, 1, none⟩ = some (.int .i64 first) := (hnx.out.cell (p := ⟨b, 1, none⟩) hbn).trans c1
      have hm : recs[k].size ≤ maxLen := HS.out _ (List.getElem_mem hkl)
      have hg : recs.getD k ⟨#[]⟩ = recs[k] := by simp [hkl]
      have hp : pRec first recs k = ⟨(first + (k : Int), recOf recs[k]), recOf_small _⟩ := Subtype.ext (by show (first + (k : Int), recOf (recs.getD k ⟨#[]⟩)) = _; rw [hg])
      obtain ⟨s, es⟩ : ∃ s, recs[k] = s := ⟨_, rfl⟩
      rw [es] at hcx hm hp
      obtain ⟨R1, R2, R3, R4, eR⟩ : ∃ a b c d, readRes s = (a, b, c, d) := ⟨_, _, _, _, rfl⟩
      have HI : Hid (∀ w, utabs w → Calls Tryz.prog 104 #[.string s] w fun e w' => e = .returned (recOut R1 R2 R3 (R4 : Int)) ∧ Below w.heap.size w w') := fun w hT => by
        have h := impl_recRead s w hm hT
        rw [eR] at h
        exact h
      have hr3 : R3.size ≤ 16 := by have h := recOf_small s; simp [recOf, eR] at h; exact h
      have HP : Hid (pRec first recs k = ⟨(first + (k : Int), R1, R2, R3), hr3⟩) := show _ = _ by rw [hp]; simp [recOf, eR]
      have hsz : n₀ ≤ wr.heap.size := Nat.le_trans hn₀ hnx.out.size
      have HK : Hid (∀ W1, Below wr.heap.size wr W1 → J (upto (pRec first recs) k) W1) := fun W1 hb => HJ.out _ wr W1 none hJs.out (grown_of_below hb none) (fun r e => by cases e)
      have HY1 : Hid (∀ W1, Below wr.heap.size wr W1 → YieldAt Fence.wide (n - 1) Tryz.prog l #[.int .i64 (first + (k : Int)), recV R1 R2 R3] W1 fun e W' => ∃ v, e = .returned (.bool v) ∧ Out n₀ J Jx (upto (pRec first recs) (k + 1)) wr v W') := fun W1 hb => by
        obtain ⟨fn, tmps, assign, body, hy, hR⟩ := HY.out _ (pRec first recs k) W1 (HK.out W1 hb) (by rw [upto_length]; exact hlt)
        rw [HP.out] at hy
        refine ⟨fn, tmps, assign, body, hy, hR.mono ?_⟩
        rintro e W' (⟨rfl, hJ', hk'⟩ | ⟨rfl, hJ'⟩)
        · exact ⟨true, rfl, .inl ⟨rfl, by rw [upto_succ]; exact hJ', (hb.mono hsz).trans hk'⟩⟩
        · exact ⟨false, rfl, .inr ⟨rfl, by rw [upto_succ]; exact hJ'⟩⟩
      clear hp eR es hg hm
      have hwk : IntKind.i64.wrap (first + (k : Int)) = first + (k : Int) := i64_wrap_in _ (by omega) (by omega)
      have hfd := field_rec R1 R2 R3 (R4 : Int)
      have hmx : Tryz.prog.follows .mixedOrders = true := by kernel_rfl
      have hbw : b < wr.heap.size := by omega
      have hBw : Bs < wr.heap.size := by omega
      gi_wp2
      gi_region_with_o (first | (refine ⟨trivial, ?_⟩; gi_at_call 104; refine (callsIn_wide.2 (HI.out _ (HT.out _ hnx.out.drew))).mono ?_; rintro e w1 ⟨rfl, hb1⟩; have hx1 := (hb1.cell (p := ⟨Bs, 0, none⟩) hBw).trans hx1; have hx2 := (hb1.cell (p := ⟨b, 1, none⟩) hbw).trans hx2; obtain ⟨fn, tmps, assign, body, hy, hR⟩ := HY1.out w1 (below_tr ((Below.refl _ _).drew) hb1); clear hb1) | (refine RoundIn.mono hR ?_; rintro e W3 ⟨v, rfl, hv⟩))
      all_goals
        rcases hv with ⟨rfl, hJ', hk'⟩ | ⟨rfl, hJ'⟩
        · have HJ' : Hid _ := hJ'
          have HK' : Hid (Below n₀ W W3) := hnx.out.trans hk'
          clear hJ' hk'
          gi_wp2
          first | exact ⟨⟨k + 1, by omega, by go_num, HJ'.out, HK'.out⟩, by simp [intOf]; omega⟩ | (go_roundw; all_goals first | exact ⟨k + 1, by omega, by simp, HJ'.out, HK'.out⟩ | (simp [intOf]; omega))
        · have HJ' : Hid _ := hJ'
          clear hJ'
          gi_wp2
          refine bodyPost_ret (results_none rfl _ _ _) rfl ?_
          exact ⟨⟨_, rfl⟩, .inr ⟨_, ⟨k + 1, by omega, rfl⟩, HJ'.out⟩⟩
    · obtain rfl : k = rl := by omega
      gi_wp2
      go_end0
      exact ⟨⟨_, rfl⟩, .inl ⟨_, rfl, hJs.out⟩⟩
/-- The closure gives all places in order, or the first of them. -/
theorem recs_stops (n Bs n₀ b : Nat) (hn : 1 ≤ n) (d st lp : Int) (recs : List ByteArray) (w : World)
    (hn₀ : n₀ ≤ w.heap.size) (hBs : w.cell? ⟨Bs, 0, none⟩ = some (.pointer (some ⟨b, 0, none⟩))) (hBn : Bs < n₀) (hw : Work w b cap first ra rl rc ca cl cc d st lp) (hbn : b < n₀)
    (hr : Strs w ra rl recs) (hrn : ∀ x, ra = some x → x.block < n₀) (hs : ∀ s ∈ recs, s.size ≤ maxLen) (hTn : ∀ W', Below n₀ w W' → utabs W') (h : 0 ≤ first ∧ first ≤ 1000000) (hl : rl ≤ 1048576) :
    SeqStopsK Fence.wide n Tryz.prog 103 #[.pointer (some ⟨Bs, 0, none⟩)] encP (Below n₀) (fun ys => ys = upto (pRec first recs) rl) (fun pre => ∃ k, k ≤ rl ∧ pre = upto (pRec first recs) k) rl w := fun l J Jx W hW hJ _ hY h0 => by
  exact recs_in n l Bs n₀ b hn d st lp recs J Jx W hJ hY (Nat.le_trans hn₀ hW.size) ((hW.cell (p := ⟨Bs, 0, none⟩) (by show Bs < _; omega)).trans hBs) hBn (hw.below hW) hbn (strs_below hr hW) hrn hs (fun W' hb => hTn W' ((hW.mono hn₀).trans hb)) h hl h0
end Go.Proofs.YtgjomkgbpfklkaaGreatDoor
