import Derived.Test.YtahccighonddaaaGreatDoorLawRing0
import Derived.Laws.AppendOwn
import Derived.Laws.OwnMore
import Derived.Maps.AppendAt
import Derived.Maps.Range
import Derived.Maps.RangeWalk
import Derived.OwnWalk
namespace Go.Proofs.YtahccighonddaaaGreatDoor
open Go.RowKit
theorem below_grown {w w' : World} (h : Below w.heap.size w w') : w.grownBy w' none := ⟨h.os,h.tape,h.output,h.size,fun k hk _ => h.block k hk⟩
def markGo : Nat → Nat → List UInt8 → List UInt8
  | 0,_,out => out
  | f + 1,k,out => if k = 0 then out else markGo f (k / 10) (UInt8.ofNat (48 + k % 10) :: out)
def markB (k : Nat) : ByteArray := ⟨(109 :: markGo 32 k []).toArray⟩
theorem markGo_zero (f : Nat) (out : List UInt8) : markGo f 0 out = out := by cases f <;> simp [markGo]
theorem markGo_succ (f k : Nat) (out : List UInt8) (h : 0 < k) : markGo (f + 1) k out = markGo f (k / 10) (UInt8.ofNat (48 + k % 10) :: out) := by
  have : ¬ k = 0 := by omega
  simp [markGo,this]
theorem mark_byte (k : Nat) : ((UInt8.ofNat (48 + k % 10)).toNat : Int) = 48 + (k : Int) % 10 := by
  have h : k % 10 < 10 := Nat.mod_lt _ (by omega)
  have e : (UInt8.ofNat (48 + k % 10)).toNat = 48 + k % 10 := by
    simp; omega
  rw [e]
  omega
theorem conv_one {P : Program} (w : World) (src dst e : TypeId) (b : UInt8) (x : Int) (hx : x = (b.toNat : Int)) (hs : P.underlying src = some (.slice e)) (he : P.underlying e = some (.int .u8)) (hd : P.underlying dst = some .string) :
    (convert src dst (.slice (some ⟨w.heap.size,0,none⟩) 1 1)).run P (w.alloc (.cells #[.int .u8 x] e)) = .ok (.string ⟨#[b]⟩) (w.alloc (.cells #[.int .u8 x] e)) := by
  subst hx
  refine run_convert_bytes_back _ src dst e ⟨w.heap.size,0,none⟩ 1 [b] hs he hd fun j hj => ?_
  have : j = 0 := by simp at hj; omega
  subst this
  exact World.cell?_alloc_new _ _ _ _
set_option maxHeartbeats 1000000 in
theorem law_markText (K : Nat) (w : World) (h0 : 0 < K) (h1 : K ≤ 1000000000) :
    Calls Tryz.prog 118 #[.int .i64 K] w fun e w' => e = .returned (.string (markB K)) ∧ Below w.heap.size w w' := by
  go_enter Tryz.func118,Tryz.ntmps118
  go_wp2
  go_loopw [0,3] (fun k o wr => ∃ (f j : Nat) (out : List UInt8),k = .int .i64 j ∧ o = .string ⟨out.toArray⟩ ∧ out.length + f = 32 ∧ Hid (j ≤ 1000000000) ∧ Hid (j < 10 ^ f) ∧ Hid (markGo f j out = markGo 32 K []) ∧ Hid (Below w.heap.size w wr)) (fun k _ _ => (intOf k).toNat)
  case atStart => exact ⟨32,K,[],rfl,rfl,rfl,h1,show K < 10 ^ 32 by omega,rfl,Below.refl _ _⟩
  case round =>
    obtain ⟨f,j,out,rfl,rfl,hl,hj,hf,he,hw⟩ := hrel
    by_cases hlt : 0 < j
    · have hj' := hj.out
      have hcv := fun (w : World) => conv_one (P := Tryz.prog) w 213 9 5 (UInt8.ofNat (48 + j % 10)) (48 + (j : Int) % 10) (mark_byte j).symm Tryz.underlying213 Tryz.underlying5 Tryz.underlying9
      obtain ⟨f',rfl⟩ : ∃ f',f = f' + 1 := by
        cases f with
        | zero => have := hf.out; simp at this; omega
        | succ n => exact ⟨n,rfl⟩
      have hpow : Hid (j / 10 < 10 ^ f') := by
        have h := hf.out
        rw [Nat.pow_succ] at h
        exact Nat.div_lt_of_lt_mul (by omega)
      have hx : Hid (markGo f' (j / 10) (UInt8.ofNat (48 + j % 10) :: out) = markGo 32 K []) := by
        have h := he.out
        rw [markGo_succ f' j out hlt] at h
        exact h
      clear he hf
      go_wp2
      refine ⟨⟨f',j / 10,UInt8.ofNat (48 + j % 10) :: out,by go_num,?_,by simp; omega,show j / 10 ≤ 1000000000 by omega,hpow.out,hx.out,hw.out.alloc hw.out.size _⟩,by simp [intOf]; omega⟩
      rw [cat_eq [_]]
      simp
    · obtain rfl : j = 0 := by omega
      have hx : Hid (out = markGo 32 K []) := (markGo_zero f out).symm.trans he.out
      go_wp2
      go_ret
      refine ⟨ret_string ?_,hw.out⟩
      rw [cat_eq [_]]
      simp [markB,hx.out]
def mStr (K : Nat) (xs : List Value) (i : Nat) : List Value := xs.mapIdx fun j x => if j < i then .string (markB (K + j)) else x
def mCur (K : Nat) (xs : List Value) (i : Nat) : List Value := xs.mapIdx fun j x => if j < i then .int .i64 ((K + j : Nat) : Int) else x
theorem mapIdx_same (xs : List Value) : xs.mapIdx (fun _ x => x) = xs := by
  apply List.ext_getElem?
  intro j
  simp
theorem mStr_zero (K : Nat) (xs : List Value) : mStr K xs 0 = xs := by simp [mStr,mapIdx_same]
theorem mCur_zero (K : Nat) (xs : List Value) : mCur K xs 0 = xs := by simp [mCur,mapIdx_same]
theorem mStr_set (K : Nat) (xs : List Value) (i : Nat) (h : i < xs.length) : (mStr K xs i).set i (.string (markB (K + i))) = mStr K xs (i + 1) := by
  apply List.ext_getElem?
  intro j
  by_cases hj : i = j
  · subst hj
    simp [mStr,h]
  · rw [List.getElem?_set_ne hj]
    simp only [mStr,List.getElem?_mapIdx]
    cases xs[j]? with
    | none => rfl
    | some x =>
      by_cases h1 : j < i
      · have : j < i + 1 := by omega
        simp [h1,this]
      · have : ¬ j < i + 1 := by omega
        simp [h1,this]
theorem mCur_set (K : Nat) (xs : List Value) (i : Nat) (h : i < xs.length) : (mCur K xs i).set i (.int .i64 ((K + i : Nat) : Int)) = mCur K xs (i + 1) := by
  apply List.ext_getElem?
  intro j
  by_cases hj : i = j
  · subst hj
    simp [mCur,h]
  · rw [List.getElem?_set_ne hj]
    simp only [mCur,List.getElem?_mapIdx]
    cases xs[j]? with
    | none => rfl
    | some x =>
      by_cases h1 : j < i
      · have : j < i + 1 := by omega
        simp [h1,this]
      · have : ¬ j < i + 1 := by omega
        simp [h1,this]
theorem mStr_length (K : Nat) (xs : List Value) (i : Nat) : (mStr K xs i).length = xs.length := by simp [mStr]
theorem mCur_length (K : Nat) (xs : List Value) (i : Nat) : (mCur K xs i).length = xs.length := by simp [mCur]
theorem mStr_at (K : Nat) (xs : List Value) (i : Nat) (h : i < xs.length) : (mStr K xs xs.length)[i]? = some (.string (markB (K + i))) := by simp [mStr,h]
theorem mCur_at (K : Nat) (xs : List Value) (i : Nat) (h : i < xs.length) : (mCur K xs xs.length)[i]? = some (.int .i64 ((K + i : Nat) : Int)) := by simp [mCur,h]
theorem own_form {w : World} {base e size n : Nat} {a : Option Addr} {c : Nat} {xs : List Value} (h : w.ownsRow base e size (.slice a n c) n xs) (hn : 0 < n) : ∃ g,a = some ⟨g,0,none⟩ := by
  rcases h.2 with ⟨e1,h0⟩ | ⟨g,cap,cur,e1,_⟩
  · omega
  · simp only [Value.slice.injEq] at e1
    exact ⟨g,e1.1⟩
set_option maxHeartbeats 1000000 in
theorem law_markStrs (a : Option Addr) (n c base : Nat) (xs : List Value) (K : Nat) (w : World) (hown : w.ownsRow base 9 1 (.slice a n c) n xs) (hK : 0 < K) (hm : K + n ≤ 100000000) :
    Calls Tryz.prog 70 #[.slice a n c,.int .i64 K] w fun e w' => e = .returned (.int .i64 ((K + n : Nat) : Int)) ∧ w'.ownsRow base 9 1 (.slice a n c) n (mStr K xs n) ∧ w.grownBy w' (Value.slice a n c).ownBlock := by
  have hlen : xs.length = n := by simpa using hown.1
  have HO : Hid _ := hown
  clear hown
  go_enter Tryz.func70,Tryz.ntmps70
  go_wp2
  go_loopw [1,5] (fun q i wr => ∃ k : Nat,k ≤ n ∧ i = .int .i64 k ∧ q = .int .i64 ((K + k : Nat) : Int) ∧ Hid (wr.ownsRow base 9 1 (.slice a n c) n (mStr K xs k)) ∧ Hid (w.grownBy wr (Value.slice a n c).ownBlock)) (fun _ i _ => n - (intOf i).toNat)
  case atStart => exact ⟨0,by omega,rfl,by go_num,by rw [mStr_zero]; exact HO.out,World.grownBy.refl _ _⟩
  case round =>
    obtain ⟨k,hk,rfl,rfl,ho,hw⟩ := hrel
    by_cases hlt : k < n
    · obtain ⟨g,rfl⟩ := own_form ho.out (by omega)
      have hcl := ho.out.cellAt k (by omega)
      have hlt2 := ho.out.lt g rfl
      obtain ⟨x,hx⟩ : ∃ x,(mStr K xs k)[k]? = some x := ⟨_,List.getElem?_eq_getElem (by rw [mStr_length]; omega)⟩
      rw [hx] at hcl
      have hfr := ho.out.frozenAt k
      clear hx
      go_wp2_with (go_at_call 118; refine (law_markText (K + k) _ (by omega) (by omega)).mono ?_; rintro e w1 ⟨rfl,hb1⟩; have hc1 := (hb1.cell (p := ⟨g,k,none⟩) hlt2.2).trans hcl; have hf1 := (hb1.frozen (p := ⟨g,k,none⟩) hlt2.2).trans hfr; have ho1 : Hid (w1.ownsRow base 9 1 (.slice (some ⟨g,0,none⟩) n c) n (mStr K xs k)) := ho.out.kept (World.grownBy.but (below_grown hb1) none) (.inr (by simp [Value.ownBlock])); have hw1 : Hid _ := hw.out.trans ((below_grown hb1).but _); clear hb1)
      obtain ⟨hs1,hs2⟩ := ho1.out.stored k (.string (markB (K + k)))
      rw [mStr_set K xs k (by omega)] at hs1
      exact ⟨⟨k + 1,by omega,by go_num,by go_num,hs1,hw1.out.trans hs2⟩,by simp [intOf]; omega⟩
    · obtain rfl : k = n := by omega
      go_wp2
      go_ret
      exact ⟨ret_int (by omega),ho.out,hw.out⟩
set_option maxHeartbeats 1000000 in
theorem law_markCurs (a : Option Addr) (n c base : Nat) (xs : List Value) (K : Nat) (w : World) (hown : w.ownsRow base 96 2 (.slice a n c) n xs) (hK : 0 < K) (hm : K + n * 2 ≤ 100000000) :
    Calls Tryz.prog 101 #[.slice a n c,.int .i64 K] w fun e w' => e = .returned (.int .i64 ((K + n * 2 : Nat) : Int)) ∧ w'.ownsRow base 96 2 (.slice a n c) n (mCur K xs (n * 2)) ∧ w.grownBy w' (Value.slice a n c).ownBlock := by
  have hlen : xs.length = n * 2 := hown.1
  have HO : Hid (w.ownsRow base 96 2 (.slice a n c) n xs) := hown
  clear hown
  go_enter Tryz.func101,Tryz.ntmps101
  go_wp2
  go_loopw [1,5] (fun q i wr => ∃ k : Nat,k ≤ n ∧ i = .int .i64 k ∧ q = .int .i64 ((K + k * 2 : Nat) : Int) ∧ Hid (wr.ownsRow base 96 2 (.slice a n c) n (mCur K xs (k * 2))) ∧ Hid (w.grownBy wr (Value.slice a n c).ownBlock)) (fun _ i _ => n - (intOf i).toNat)
  case atStart => exact ⟨0,by omega,rfl,by go_num,by rw [Nat.zero_mul,mCur_zero]; exact HO.out,World.grownBy.refl _ _⟩
  case round =>
    obtain ⟨k,hk,rfl,rfl,ho,hw⟩ := hrel
    by_cases hlt : k < n
    · obtain ⟨g,rfl⟩ := own_form ho.out (by omega)
      have hcl := ho.out.cellAt (k * 2) (by omega)
      have hcm := ho.out.cellAt (k * 2 + 1) (by omega)
      obtain ⟨x,hx⟩ : ∃ x,(mCur K xs (k * 2))[k * 2]? = some x := ⟨_,List.getElem?_eq_getElem (by rw [mCur_length]; omega)⟩
      obtain ⟨y,hy⟩ : ∃ y,(mCur K xs (k * 2))[k * 2 + 1]? = some y := ⟨_,List.getElem?_eq_getElem (by rw [mCur_length]; omega)⟩
      rw [hx] at hcl
      rw [hy] at hcm
      have hfr := ho.out.frozenAt (k * 2)
      have hfs := ho.out.frozenAt (k * 2 + 1)
      clear hx hy
      obtain ⟨hs1,hs2⟩ := ho.out.stored (k * 2) (.int .i64 ((K + k * 2 : Nat) : Int))
      rw [mCur_set K xs (k * 2) (by omega)] at hs1
      obtain ⟨hs3,hs4⟩ := hs1.stored (k * 2 + 1) (.int .i64 ((K + (k * 2 + 1) : Nat) : Int))
      rw [mCur_set K xs (k * 2 + 1) (by omega),show k * 2 + 1 + 1 = (k + 1) * 2 by omega] at hs3
      have H3 : Hid _ := hs3
      have H4 : Hid _ := (hw.out.trans hs2).trans hs4
      clear hs1 hs2 hs3 hs4
      go_wp2
      refine ⟨⟨k + 1,by omega,by go_num,by go_num,?_,?_⟩,by simp [intOf]; omega⟩
      · exact H3.out
      · exact H4.out
    · obtain rfl : k = n := by omega
      go_wp2
      go_ret
      exact ⟨ret_int (by omega),ho.out,hw.out⟩
set_option maxHeartbeats 1000000 in
theorem law_heldStrs (a : Option Addr) (n c base : Nat) (xs : List Value) (K : Nat) (w : World) (hown : w.ownsRow base 9 1 (.slice a n c) n (mStr K xs n)) (hx : xs.length = n) (hK : 0 < K) (hm : K + n ≤ 100000000) :
    Calls Tryz.prog 71 #[.slice a n c,.int .i64 K] w fun e w' => e = .returned (.int .i64 ((K + n : Nat) : Int)) ∧ Below w.heap.size w w' := by
  have HO : Hid (w.ownsRow base 9 1 (.slice a n c) n (mStr K xs n)) := hown
  clear hown
  go_enter Tryz.func71,Tryz.ntmps71
  go_wp2
  go_loopw [1,5] (fun q i wr => ∃ k : Nat,k ≤ n ∧ i = .int .i64 k ∧ q = .int .i64 ((K + k : Nat) : Int) ∧ Hid (Below w.heap.size w wr)) (fun _ i _ => n - (intOf i).toNat)
  case atStart => exact ⟨0,by omega,rfl,by go_num,Below.refl _ _⟩
  case round =>
    obtain ⟨k,hk,rfl,rfl,hw⟩ := hrel
    by_cases hlt : k < n
    · obtain ⟨g,rfl⟩ := own_form HO.out (by omega)
      have hcl := HO.out.cellAt k (by omega)
      have hlt2 := HO.out.lt g rfl
      have hxk : (mStr K xs n)[k]? = some (.string (markB (K + k))) := by rw [← hx]; exact mStr_at K xs k (by omega)
      rw [hxk,← hw.out.cell (p := ⟨g,k,none⟩) hlt2.2] at hcl
      clear hxk
      have hsz := hw.out.size
      go_wp2
      go_region_with (go_at_call 118; refine (law_markText (K + k) _ (by omega) (by omega)).mono ?_; rintro e w1 ⟨rfl,hb1⟩; have hc1 := (hb1.cell (p := ⟨g,k,none⟩) (Nat.lt_of_lt_of_le hlt2.2 hsz)).trans hcl; have hw1 : Hid (Below w.heap.size w w1) := below_tr hw.out.drew hb1; clear hb1)
      all_goals go_wp2
      all_goals first | exact ⟨⟨k + 1,by omega,by go_num,by go_num,hw1.out⟩,by simp [intOf]; omega⟩ | (go_roundw; all_goals first | exact ⟨k + 1,by omega,by go_num,by go_num,hw1.out⟩ | (simp [intOf]; omega))
    · obtain rfl : k = n := by omega
      go_wp2
      go_ret
      exact ⟨ret_int (by omega),hw.out⟩
set_option maxHeartbeats 1000000 in
theorem law_heldCurs (a : Option Addr) (n c base : Nat) (xs : List Value) (K : Nat) (w : World) (hown : w.ownsRow base 96 2 (.slice a n c) n (mCur K xs (n * 2))) (hx : xs.length = n * 2) (hK : 0 < K) (hm : K + n * 2 ≤ 100000000) :
    Calls Tryz.prog 156 #[.slice a n c,.int .i64 K] w fun e w' => e = .returned (.int .i64 ((K + n * 2 : Nat) : Int)) ∧ w' = w := by
  have HO : Hid (w.ownsRow base 96 2 (.slice a n c) n (mCur K xs (n * 2))) := hown
  clear hown
  go_enter Tryz.func156,Tryz.ntmps156
  go_wp2
  go_loop [1,5] (fun q i => ∃ k : Nat,k ≤ n ∧ i = .int .i64 k ∧ q = .int .i64 ((K + k * 2 : Nat) : Int)) (fun _ i => n - (intOf i).toNat)
  case atStart => exact ⟨0,by omega,rfl,by go_num⟩
  case round =>
    obtain ⟨k,hk,rfl,rfl⟩ := hrel
    by_cases hlt : k < n
    · obtain ⟨g,rfl⟩ := own_form HO.out (by omega)
      have hcl := HO.out.cellAt (k * 2) (by omega)
      have hcm := HO.out.cellAt (k * 2 + 1) (by omega)
      have hxk : (mCur K xs (n * 2))[k * 2]? = some (.int .i64 ((K : Int) + (k : Int) * 2)) := by rw [← hx,mCur_at K xs (k * 2) (by omega)]; go_num
      have hyk : (mCur K xs (n * 2))[k * 2 + 1]? = some (.int .i64 ((K : Int) + (k : Int) * 2 + 1)) := by rw [← hx,mCur_at K xs (k * 2 + 1) (by omega)]; go_num
      rw [hxk] at hcl
      rw [hyk] at hcm
      clear hxk hyk
      go_wp2
      all_goals first | exact ⟨⟨k + 1,by omega,by go_num,by go_num⟩,by simp [intOf]; omega⟩ | (go_round; all_goals first | exact ⟨k + 1,by omega,by go_num,by go_num⟩ | (simp [intOf]; omega))
    · obtain rfl : k = n := by omega
      go_wp2
      go_ret
      exact ⟨ret_int (by omega),rfl⟩
end Go.Proofs.YtahccighonddaaaGreatDoor
namespace Go.Proofs.YtahccighonddaaaGreatDoor
open Go.RowKit
theorem grown_cell {w w' : World} {row : Option Nat} (hg : w.grownBy w' row) {b : Nat} (hlt : b < w.heap.size) (hne : some b ≠ row) (o : Nat) : w'.cell? ⟨b,o,none⟩ = w.cell? ⟨b,o,none⟩ := World.cell?_of_block (hg.block b hlt hne)
def OwnRing (w : World) (base : Nat) (ra : Option Addr) (rl rc : Nat) (ca : Option Addr) (cl cc : Nat) (xs ys : List Value) : Prop :=
  w.ownsRow base 9 1 (.slice ra rl rc) rl xs ∧ w.ownsRow base 96 2 (.slice ca cl cc) cl ys
def Grown2 (w w' : World) (r s : Option Nat) : Prop :=
  w'.os = w.os ∧ w'.tape = w.tape ∧ w'.output = w.output ∧ w.heap.size ≤ w'.heap.size ∧ ∀ k,k < w.heap.size → some k ≠ r → some k ≠ s → w'.heap[k]? = w.heap[k]?
theorem Grown2.trans {u v w : World} {r s : Option Nat} (h : Grown2 u v r s) (k : Grown2 v w r s) : Grown2 u w r s :=
  ⟨k.1.trans h.1,k.2.1.trans h.2.1,k.2.2.1.trans h.2.2.1,Nat.le_trans h.2.2.2.1 k.2.2.2.1,fun i hi h1 h2 => (k.2.2.2.2 i (Nat.lt_of_lt_of_le hi h.2.2.2.1) h1 h2).trans (h.2.2.2.2 i hi h1 h2)⟩
theorem Grown2.right {w w' : World} {s : Option Nat} (h : w.grownBy w' s) (r : Option Nat) : Grown2 w w' r s := ⟨h.os,h.tape,h.output,h.size,fun k hk _ h1 => h.block k hk h1⟩
theorem Grown2.ofBelow {w w' : World} (h : Below w.heap.size w w') (r s : Option Nat) : Grown2 w w' r s := ⟨h.os,h.tape,h.output,h.size,fun k hk _ _ => h.block k hk⟩
theorem Grown2.below {w u v : World} {N : Nat} {r s : Option Nat} (h : Below N w u) (hN : N ≤ u.heap.size) (k : Grown2 u v r s) (hr : ∀ i,r = some i → N ≤ i) (hs : ∀ i,s = some i → N ≤ i) : Below N w v :=
  ⟨k.1.trans h.os,k.2.1.trans h.tape,k.2.2.1.trans h.output,Nat.le_trans h.size k.2.2.2.1,fun i hi => (k.2.2.2.2 i (Nat.lt_of_lt_of_le hi hN) (fun e => by have := hr i e.symm; omega) (fun e => by have := hs i e.symm; omega)).trans (h.block i hi)⟩
theorem Grown2.kept {w w' : World} {r s : Option Nat} (k : Grown2 w w' r s) {base e size n : Nat} {v : Value} {xs : List Value} (h : w.ownsRow base e size v n xs) (h1 : ∀ i,v.ownBlock = some i → some i ≠ r ∧ some i ≠ s) : w'.ownsRow base e size v n xs := by
  refine ⟨h.1,?_⟩
  rcases h.2 with hn | ⟨g,cap,cur,rfl,hb,hg,rest⟩
  · exact .inl hn
  · have hlt : g < w.heap.size := (Array.getElem?_eq_some_iff.1 hg).1
    have hne := h1 g rfl
    exact .inr ⟨g,cap,cur,rfl,hb,(k.2.2.2.2 g hlt hne.1 hne.2).trans hg,rest⟩
theorem Grown2.cell {w w' : World} {r s : Option Nat} (k : Grown2 w w' r s) {b : Nat} (hb : b < w.heap.size) (h1 : some b ≠ r) (h2 : some b ≠ s) (o : Nat) : w'.cell? ⟨b,o,none⟩ = w.cell? ⟨b,o,none⟩ := by
  simp [World.cell?,k.2.2.2.2 b hb h1 h2]
theorem own_apart {w : World} {base base' n n' : Nat} {v v' : Value} {xs ys : List Value} (h : w.ownsRow base 9 1 v n xs) (h' : w.ownsRow base' 96 2 v' n' ys) : v.ownBlock = none ∨ v.ownBlock ≠ v'.ownBlock := by
  rcases h.2 with ⟨rfl,_⟩ | ⟨g,cap,cur,rfl,hb,hg,rest⟩
  · exact .inl rfl
  · rcases h'.2 with ⟨rfl,_⟩ | ⟨g',cap',cur',rfl,hb',hg',rest'⟩
    · exact .inr (by simp [Value.ownBlock])
    · refine .inr fun e => ?_
      simp [Value.ownBlock] at e
      subst e
      rw [hg] at hg'
      simp at hg'
theorem own_strs {w : World} {base n c : Nat} {a : Option Addr} {l : List ByteArray} (h : w.ownsRow base 9 1 (.slice a n c) n (l.map Value.string)) : Strs w a n l := by
  have hl : l.length = n := by simpa using h.1
  refine ⟨hl,fun i hi => ?_⟩
  obtain ⟨g,rfl⟩ := own_form h (by omega)
  refine ⟨g,0,rfl,?_⟩
  rw [Nat.zero_add,h.cellAt i (by omega)]
  simp [hi]
def curCells : List (Int × Int) → List Value
  | [] => []
  | c :: r => .int .i64 c.1 :: .int .i64 c.2 :: curCells r
theorem curCells_length (l : List (Int × Int)) : (curCells l).length = l.length * 2 := by
  induction l with
  | nil => rfl
  | cons c r ih => simp [curCells,ih]; omega
theorem curCells_at (l : List (Int × Int)) (i : Nat) (h : i < l.length) : (curCells l)[i * 2]? = some (.int .i64 l[i].1) ∧ (curCells l)[i * 2 + 1]? = some (.int .i64 l[i].2) := by
  induction l generalizing i with
  | nil => simp at h
  | cons c r ih =>
    cases i with
    | zero => simp [curCells]
    | succ j =>
      have := ih j (by simpa using h)
      have e : (j + 1) * 2 = j * 2 + 1 + 1 := by omega
      simp only [curCells,e,List.getElem?_cons_succ,List.getElem_cons_succ]
      exact this
theorem curCells_append (l r : List (Int × Int)) : curCells (l ++ r) = curCells l ++ curCells r := by
  induction l with
  | nil => rfl
  | cons c t ih => simp [curCells,ih]
theorem own_curs {w : World} {base n c : Nat} {a : Option Addr} {l : List (Int × Int)} (h : w.ownsRow base 96 2 (.slice a n c) n (curCells l)) : Curs w a n l := by
  have hl : l.length = n := by have := h.1; rw [curCells_length] at this; omega
  refine ⟨hl,fun i hi => ?_⟩
  obtain ⟨g,rfl⟩ := own_form h (by omega)
  have hc := curCells_at l i hi
  refine ⟨g,0,rfl,?_,?_⟩
  · rw [Nat.zero_add,h.cellAt (i * 2) (by omega)]; exact hc.1
  · rw [Nat.zero_add,h.cellAt (i * 2 + 1) (by omega)]; exact hc.2
end Go.Proofs.YtahccighonddaaaGreatDoor
namespace Go.Proofs.YtahccighonddaaaGreatDoor
open Go.RowKit
def strSum (l : List ByteArray) : Nat := (l.map ByteArray.size).sum
theorem strSum_snoc (l : List ByteArray) (k : Nat) (h : k < l.length) : strSum (l.take (k + 1)) = strSum (l.take k) + l[k].size := by
  unfold strSum
  rw [List.take_succ_eq_append_getElem h,List.map_append,List.sum_append]
  simp
theorem strSum_le (l : List ByteArray) (k : Nat) : strSum (l.take k) ≤ strSum l := by
  have h : strSum l = strSum (l.take k) + strSum (l.drop k) := by
    unfold strSum
    rw [← List.sum_append,← List.map_append,List.take_append_drop]
  omega
theorem strSum_mem (l : List ByteArray) (s : ByteArray) (h : s ∈ l) : s.size ≤ strSum l := by
  induction l with
  | nil => simp at h
  | cons x r ih =>
    rcases List.mem_cons.1 h with rfl | h
    · simp [strSum]
    · have := ih h
      simp [strSum] at this ⊢
      omega
def szLeft (L n s : Nat) : Int := if n + s ≤ L then ((L - (n + s) : Nat) : Int) else -1
set_option maxHeartbeats 1000000 in
theorem law_szStrs (a : Option Addr) (n c : Nat) (l : List ByteArray) (L : Nat) (w : World) (ha : Strs w a n l) (hn : n ≤ maxLen) (hs : ∀ s ∈ l,s.size ≤ maxLen) (hL : L ≤ 1048576) :
    Calls Tryz.prog 121 #[.slice a n c,.int .i64 L] w fun e w' => e = .returned (.int .i64 (szLeft L n (strSum l))) ∧ w' = w := by
  have hl : l.length = n := ha.1
  unfold maxLen at hn
  have HA : Hid (Strs w a n l) := ha
  have HS : Hid (∀ s ∈ l,s.size ≤ maxLen) := hs
  have HL : Hid _ := hl
  clear ha hs hl
  by_cases h0 : L < n
  · have hE : Hid (szLeft L n (strSum l) = -1) := show _ = _ by rw [szLeft,if_neg (by omega)]
    go_enter Tryz.func121,Tryz.ntmps121
    go_wp2
    go_ret
    exact ⟨ret_int hE.out.symm,rfl⟩
  · go_enter Tryz.func121,Tryz.ntmps121
    go_wp2
    go_loop [1,5] (fun q i => ∃ (k x : Nat),k ≤ n ∧ i = .int .i64 k ∧ q = .int .i64 x ∧ x ≤ 1048576 ∧ Hid (x + n + strSum (l.take k) = L)) (fun _ i => n - (intOf i).toNat)
    case atStart => exact ⟨0,L - n,by omega,rfl,by go_num,by omega,show _ = _ by simp [strSum]; omega⟩
    case round =>
      obtain ⟨k,x,hk,rfl,rfl,hx,hq⟩ := hrel
      by_cases hlt : k < n
      · obtain ⟨b,off,V,rfl,e1,c1⟩ := strs_at HA.out (Below.refl _ _) hlt
        have hkl : k < l.length := by rw [HL.out]; exact hlt
        have hV : l[k] = V := by rw [List.getElem?_eq_getElem hkl] at e1; exact Option.some.inj e1
        have hm : V.size ≤ maxLen := HS.out V (by rw [← hV]; exact List.getElem_mem hkl)
        unfold maxLen at hm
        have hsn : strSum (l.take (k + 1)) = strSum (l.take k) + V.size := by rw [strSum_snoc l k hkl,hV]
        have HN : Hid _ := hsn
        clear e1 hV hsn
        by_cases hle : V.size ≤ x
        · have hnx : Hid ((x - V.size) + n + strSum (l.take (k + 1)) = L) := show _ = _ by rw [HN.out]; have := hq.out; omega
          clear HN hq
          go_wp2
          all_goals first | exact ⟨⟨k + 1,x - V.size,by omega,by go_num,by go_num,by omega,hnx.out⟩,by simp [intOf]; omega⟩ | (go_round; all_goals first | exact ⟨k + 1,x - V.size,by omega,by go_num,by go_num,by omega,hnx.out⟩ | (simp [intOf]; omega))
        · have hE : Hid (szLeft L n (strSum l) = -1) := show _ = _ by
            have h1 := strSum_le l (k + 1)
            rw [HN.out] at h1
            have h2 := hq.out
            rw [szLeft,if_neg (by omega)]
          clear HN hq
          go_wp2
          go_ret
          exact ⟨ret_int hE.out.symm,rfl⟩
      · have hE : Hid (szLeft L n (strSum l) = x) := show _ = _ by
          have h2 := hq.out
          rw [List.take_of_length_le (by rw [HL.out]; omega)] at h2
          rw [szLeft,if_pos (by omega)]
          omega
        clear hq
        go_wp2
        go_ret
        exact ⟨ret_int hE.out.symm,rfl⟩
set_option maxHeartbeats 1000000 in
theorem law_szCurs (a : Option Addr) (n c : Nat) (L : Nat) (w : World) (hn : n ≤ maxLen) (hL : L ≤ 1048576) :
    Calls Tryz.prog 122 #[.slice a n c,.int .i64 L] w fun e w' => e = .returned (.int .i64 (szLeft L n 0)) ∧ w' = w := by
  unfold maxLen at hn
  by_cases h0 : L < n
  · have hE : Hid (szLeft L n 0 = -1) := show _ = _ by rw [szLeft,if_neg (by omega)]
    go_enter Tryz.func122,Tryz.ntmps122
    go_wp2
    go_ret
    exact ⟨ret_int hE.out.symm,rfl⟩
  · have hE : Hid (szLeft L n 0 = (L : Int) - (n : Int)) := show _ = _ by rw [szLeft,if_pos (by omega)]; omega
    go_enter Tryz.func122,Tryz.ntmps122
    go_wp2
    go_ret
    exact ⟨ret_int hE.out.symm,rfl⟩
end Go.Proofs.YtahccighonddaaaGreatDoor
namespace Go.Proofs.YtahccighonddaaaGreatDoor
open Go.RowKit
theorem info_str : (Tryz.prog.info? 9).map (fun i => (i.zero,i.size,i.bytes)) = some (some (.string ⟨#[]⟩),1,16) := by kernel_rfl
theorem info_cur : (Tryz.prog.info? 96).map (fun i => (i.zero,i.size,i.bytes)) = some (some (.agg #[.int .i64 0,.int .i64 0]),2,16) := by kernel_rfl
def fillTo (ys zs : List Value) (k : Nat) : List Value := ys.take k ++ zs.drop k
theorem fill_zero (ys zs : List Value) : fillTo ys zs 0 = zs := by simp [fillTo]
theorem fill_all (ys zs : List Value) (h : zs.length ≤ ys.length) : fillTo ys zs ys.length = ys := by
  rw [fillTo,List.take_length,List.drop_eq_nil_of_le h,List.append_nil]
theorem fill_set (ys zs : List Value) (k : Nat) (h : k < ys.length) (hz : k < zs.length) : (fillTo ys zs k).set k ys[k] = fillTo ys zs (k + 1) := by
  apply List.ext_getElem?
  intro j
  unfold fillTo
  by_cases hj : k = j
  · subst hj
    rw [List.getElem?_set_self (by simp; omega)]
    rw [List.getElem?_append_left (by simp; omega),List.getElem?_take,if_pos (by omega),List.getElem?_eq_getElem h]
  · rw [List.getElem?_set_ne hj]
    by_cases hlt : j < k
    · rw [List.getElem?_append_left (by simp; omega),List.getElem?_append_left (by simp; omega),List.getElem?_take,List.getElem?_take,if_pos hlt,if_pos (by omega)]
    · rw [List.getElem?_append_right (by simp; omega),List.getElem?_append_right (by simp; omega),List.getElem?_drop,List.getElem?_drop]
      congr 1
      simp
      omega
theorem fill_len (ys zs : List Value) (k : Nat) (h : ys.length = zs.length) : (fillTo ys zs k).length = ys.length := by simp [fillTo]; omega
set_option maxHeartbeats 1000000 in
theorem law_toStrs (a : Option Addr) (n c : Nat) (l : List ByteArray) (w : World) (ha : Strs w a n l) (hn : n ≤ 1048576) :
    Calls Tryz.prog 129 #[.slice a n c] w fun e w' => e = .returned (.slice (some ⟨w.heap.size,0,none⟩) n n) ∧ w'.ownsRow w.heap.size 9 1 (.slice (some ⟨w.heap.size,0,none⟩) n n) n (l.map Value.string) ∧ Below w.heap.size w w' := by
  obtain ⟨i0,hi,hz0,hz1,hz2⟩ := info_parts info_str
  have HA : Hid (Strs w a n l) := ha
  have HL : Hid (l.length = n) := ha.1
  clear ha
  go_enter Tryz.func129,Tryz.ntmps129
  go_wp2_with (at_make; refine wpList_make_full _ rfl _ _ 43 rfl w.heap.size 9 i0 _ 1 Tryz.underlying43 hi hz0 hz1 _ _ _ _ n rfl rfl rfl rfl (by rw [hz2]; omega) (by unfold maxLen; omega) (Nat.le_refl _) ?_; intro w1 ho1 hg1)
  obtain ⟨zs,hzs⟩ : ∃ zs,(madeCells (Value.cells (.string ⟨#[]⟩)) (n * 1)).toList = zs := ⟨_,rfl⟩
  have ho : w1.ownsRow w.heap.size 9 1 (.slice (some ⟨w.heap.size,0,none⟩) n n) n zs := by rw [← hzs]; exact ho1
  have HO : Hid (w1.ownsRow w.heap.size 9 1 (.slice (some ⟨w.heap.size,0,none⟩) n n) n zs) := ho
  have HZ : Hid (zs.length = n) := by have h := ho.1; show _ = _; omega
  have HB : Hid (Below w.heap.size w w1) := (Below.refl _ _).grown hg1 (Nat.le_refl _) (fun k e => by cases e)
  clear ho1 hzs hg1 ho
  go_loopw [4] (fun i wr => ∃ k : Nat,k ≤ n ∧ i = .int .i64 k ∧ Hid (wr.ownsRow w.heap.size 9 1 (.slice (some ⟨w.heap.size,0,none⟩) n n) n (fillTo (l.map Value.string) zs k)) ∧ Hid (Below w.heap.size w wr)) (fun i _ => n - (intOf i).toNat)
  case atStart => exact ⟨0,by omega,rfl,by rw [fill_zero]; exact HO.out,HB.out⟩
  case round =>
    obtain ⟨k,hk,rfl,ho,hw⟩ := hrel
    by_cases hlt : k < n
    · obtain ⟨b,off,V,rfl,e1,c1⟩ := strs_at HA.out hw.out hlt
      have hkl : k < l.length := by rw [HL.out]; exact hlt
      have hV : l[k] = V := by rw [List.getElem?_eq_getElem hkl] at e1; exact Option.some.inj e1
      have hcl := ho.out.cellAt k (by omega)
      obtain ⟨x,hx⟩ : ∃ x,(fillTo (l.map Value.string) zs k)[k]? = some x := ⟨_,List.getElem?_eq_getElem (by rw [fill_len _ _ _ (by simp; rw [HL.out,HZ.out])]; simpa using hkl)⟩
      rw [hx] at hcl
      have hfr := ho.out.frozenAt k
      obtain ⟨hs1,hs2⟩ := ho.out.stored k (.string V)
      have hse := fill_set (l.map Value.string) zs k (by simpa using hkl) (by rw [HZ.out]; exact hlt)
      rw [show (l.map Value.string)[k]'(by simpa using hkl) = .string V by simp [hV]] at hse
      rw [hse] at hs1
      have H1 : Hid _ := hs1
      have H2 : Hid (Below w.heap.size w (wr.setCell ⟨w.heap.size,k,none⟩ (.string V))) := hw.out.setCell (p := ⟨w.heap.size,k,none⟩) (Nat.le_refl _) _
      clear hs1 hs2 hse hV e1 hx
      go_wp2
      exact ⟨⟨k + 1,by omega,by go_num,H1.out,H2.out⟩,by simp [intOf]; omega⟩
    · obtain rfl : k = n := by omega
      have H1 : Hid (wr.ownsRow w.heap.size 9 1 (.slice (some ⟨w.heap.size,0,none⟩) k k) k (l.map Value.string)) := by
        have h := ho.out
        rw [show fillTo (l.map Value.string) zs k = l.map Value.string from by
          have h := fill_all (l.map Value.string) zs (by simp; rw [HL.out,HZ.out]; omega)
          rw [List.length_map,HL.out] at h
          exact h] at h
        exact h
      go_wp2
      go_ret
      exact ⟨rfl,H1.out,hw.out⟩
theorem law_toCur (g a : Int) (w : World) :
    Calls Tryz.prog 184 #[.agg #[.int .i64 g,.int .i64 a]] w fun e w' => e = .returned (.agg #[.int .i64 g,.int .i64 a]) ∧ Below w.heap.size w w' := by
  go_enter Tryz.func184,Tryz.ntmps184
  go_wp2
  exact bodyPost_ret (v := .agg #[.int .i64 g,.int .i64 a]) (by simp [results,Tryz.results184,go_sem]) rfl ⟨rfl,(((Below.refl _ _).alloc (Nat.le_refl _) _).alloc (by simp) _).alloc (by simp; omega) _⟩
set_option maxHeartbeats 1000000 in
theorem law_toCurs (a : Option Addr) (n c : Nat) (l : List (Int × Int)) (w : World) (ha : Curs w a n l) (hn : n ≤ 1048576) :
    Calls Tryz.prog 130 #[.slice a n c] w fun e w' => e = .returned (.slice (some ⟨w.heap.size,0,none⟩) n n) ∧ w'.ownsRow w.heap.size 96 2 (.slice (some ⟨w.heap.size,0,none⟩) n n) n (curCells l) ∧ Below w.heap.size w w' := by
  obtain ⟨i0,hi,hz0,hz1,hz2⟩ := info_parts info_cur
  have HA : Hid (Curs w a n l) := ha
  have HL : Hid (l.length = n) := ha.1
  clear ha
  go_enter Tryz.func130,Tryz.ntmps130
  go_wp2_with (at_make; refine wpList_make_full _ rfl _ _ 61 rfl w.heap.size 96 i0 _ 2 Tryz.underlying61 hi hz0 hz1 _ _ _ _ n rfl rfl rfl rfl (by rw [hz2]; omega) (by unfold maxLen; omega) (Nat.le_refl _) ?_; intro w1 ho1 hg1)
  obtain ⟨zs,hzs⟩ : ∃ zs,(madeCells (Value.cells (.agg #[.int .i64 0,.int .i64 0])) (n * 2)).toList = zs := ⟨_,rfl⟩
  have ho : w1.ownsRow w.heap.size 96 2 (.slice (some ⟨w.heap.size,0,none⟩) n n) n zs := by rw [← hzs]; exact ho1
  have HO : Hid (w1.ownsRow w.heap.size 96 2 (.slice (some ⟨w.heap.size,0,none⟩) n n) n zs) := ho
  have HZ : Hid (zs.length = n * 2) := ho.1
  have HB : Hid (Below w.heap.size w w1) := (Below.refl _ _).grown hg1 (Nat.le_refl _) (fun k e => by cases e)
  have HL2 : Hid ((curCells l).length = n * 2) := show _ = _ by rw [curCells_length,HL.out]
  clear ho1 hzs hg1 ho
  go_loopw [4] (fun i wr => ∃ k : Nat,k ≤ n ∧ i = .int .i64 k ∧ Hid (wr.ownsRow w.heap.size 96 2 (.slice (some ⟨w.heap.size,0,none⟩) n n) n (fillTo (curCells l) zs (k * 2))) ∧ Hid (Below w.heap.size w wr)) (fun i _ => n - (intOf i).toNat)
  case atStart => exact ⟨0,by omega,rfl,by rw [Nat.zero_mul,fill_zero]; exact HO.out,HB.out⟩
  case round =>
    obtain ⟨k,hk,rfl,ho,hw⟩ := hrel
    by_cases hlt : k < n
    · have hkl : k < l.length := by rw [HL.out]; exact hlt
      obtain ⟨b,off,rfl,g1,a1⟩ := (curs_below HA.out hw.out).2 k hkl
      have hcc := curCells_at l k hkl
      obtain ⟨G,A,hGA⟩ : ∃ G A,l[k] = (G,A) := ⟨_,_,rfl⟩
      rw [hGA] at g1 a1 hcc
      have hi0 : k * 2 < (curCells l).length := by rw [HL2.out]; omega
      have hi1 : k * 2 + 1 < (curCells l).length := by rw [HL2.out]; omega
      have he0 : (curCells l)[k * 2] = .int .i64 G := by have h := hcc.1; rw [List.getElem?_eq_getElem hi0] at h; exact Option.some.inj h
      have he1 : (curCells l)[k * 2 + 1] = .int .i64 A := by have h := hcc.2; rw [List.getElem?_eq_getElem hi1] at h; exact Option.some.inj h
      have hcl := ho.out.cellAt (k * 2) (by omega)
      have hcm := ho.out.cellAt (k * 2 + 1) (by omega)
      have hfl := fill_len (curCells l) zs (k * 2) (by rw [HL2.out,HZ.out])
      obtain ⟨x,hx⟩ : ∃ x,(fillTo (curCells l) zs (k * 2))[k * 2]? = some x := ⟨_,List.getElem?_eq_getElem (by rw [hfl]; exact hi0)⟩
      obtain ⟨y,hy⟩ : ∃ y,(fillTo (curCells l) zs (k * 2))[k * 2 + 1]? = some y := ⟨_,List.getElem?_eq_getElem (by rw [hfl]; exact hi1)⟩
      rw [hx] at hcl
      rw [hy] at hcm
      have hfr := ho.out.frozenAt (k * 2)
      have hfs := ho.out.frozenAt (k * 2 + 1)
      have hlt2 := ho.out.lt w.heap.size rfl
      have HO2 : Hid (∀ w2,Below wr.heap.size wr w2 → (((w2.setCell ⟨w.heap.size,k * 2,none⟩ (.int .i64 G)).setCell ⟨w.heap.size,k * 2 + 1,none⟩ (.int .i64 A)).ownsRow w.heap.size 96 2 (.slice (some ⟨w.heap.size,0,none⟩) n n) n (fillTo (curCells l) zs ((k + 1) * 2))) ∧ Below w.heap.size w ((w2.setCell ⟨w.heap.size,k * 2,none⟩ (.int .i64 G)).setCell ⟨w.heap.size,k * 2 + 1,none⟩ (.int .i64 A))) := fun w2 hb2 => by
        have h2 : w2.ownsRow w.heap.size 96 2 (.slice (some ⟨w.heap.size,0,none⟩) n n) n (fillTo (curCells l) zs (k * 2)) := ho.out.kept (below_grown hb2) (.inr (by simp [Value.ownBlock]))
        have hs1 := (h2.stored (k * 2) (.int .i64 G)).1
        have hse := fill_set (curCells l) zs (k * 2) hi0 (by rw [HZ.out]; omega)
        rw [he0] at hse
        rw [hse] at hs1
        have hs2 := (hs1.stored (k * 2 + 1) (.int .i64 A)).1
        have hsf := fill_set (curCells l) zs (k * 2 + 1) hi1 (by rw [HZ.out]; omega)
        rw [he1] at hsf
        rw [hsf,show k * 2 + 1 + 1 = (k + 1) * 2 by omega] at hs2
        exact ⟨hs2,((below_tr hw.out hb2).setCell (p := ⟨w.heap.size,k * 2,none⟩) (Nat.le_refl _) _).setCell (p := ⟨w.heap.size,k * 2 + 1,none⟩) (Nat.le_refl _) _⟩
      clear hx hy hcc hGA he0 he1 hfl
      go_wp2_with fail
      refine (law_toCur G A _).mono ?_
      rintro e w2 ⟨rfl,hb2⟩
      have d0 := (hb2.cell (p := ⟨w.heap.size,k * 2,none⟩) hlt2.2).trans hcl
      have d1 := (hb2.cell (p := ⟨w.heap.size,k * 2 + 1,none⟩) hlt2.2).trans hcm
      have f0 := (hb2.frozen (p := ⟨w.heap.size,k * 2,none⟩) hlt2.2).trans hfr
      have f1 := (hb2.frozen (p := ⟨w.heap.size,k * 2 + 1,none⟩) hlt2.2).trans hfs
      obtain ⟨h1,h2⟩ := HO2.out w2 hb2
      have H1 : Hid _ := h1
      have H2 : Hid _ := h2
      clear hb2 h1 h2
      go_wp2
      exact ⟨⟨k + 1,by omega,by go_num,H1.out,H2.out⟩,by simp [intOf]; omega⟩
    · obtain rfl : k = n := by omega
      have H1 : Hid (wr.ownsRow w.heap.size 96 2 (.slice (some ⟨w.heap.size,0,none⟩) k k) k (curCells l)) := by
        have h := ho.out
        rw [show fillTo (curCells l) zs (k * 2) = curCells l from by
          have h := fill_all (curCells l) zs (by rw [HL2.out,HZ.out]; omega)
          rw [HL2.out] at h
          exact h] at h
        exact h
      go_wp2
      go_ret
      exact ⟨rfl,H1.out,hw.out⟩
end Go.Proofs.YtahccighonddaaaGreatDoor
