import Derived.Test.YtahccighonddaaaGreatDoorAppendMore
import Derived.Test.YtahccighonddaaaGreatDoorLawRing4
import Derived.Test.YtahccighonddaaaGreatDoorRingNew
import Derived.Deep.RegionHeld3
import Derived.Deep.DeepCutAuto
import Derived.Deep.DrawnRows
namespace Go.Proofs.YtahccighonddaaaGreatDoor
open Go.RowKit
attribute [local go_sem ↓] Go.wp_at_zero Go.wp_at_succ
structure CurIn (w : World) (a : Option Addr) (n c : Nat) (l : List (Int × Int)) : Prop where
  curs : Curs w a n l
  lt : ∀ x,a = some x → x.block < w.heap.size
  nil : a = none → n = 0 ∧ c = 0
  cap : n ≤ c
  off : ∀ x,a = some x → x = ⟨x.block,x.off,none⟩
structure StrIn (w : World) (a : Option Addr) (n c : Nat) (l : List ByteArray) : Prop where
  strs : Strs w a n l
  lt : ∀ x,a = some x → x.block < w.heap.size
  nil : a = none → n = 0 ∧ c = 0
  cap : n ≤ c
  off : ∀ x,a = some x → x = ⟨x.block,x.off,none⟩
def cutAt (a : Option Addr) (size i j : Nat) : Option Addr := if j = i then a else a.map fun x => ⟨x.block,x.off + i * size,none⟩
set_option maxHeartbeats 1000000 in
theorem impl_cutC (a : Option Addr) (n c i j : Nat) (w : World) (hij : i ≤ j) (hj : j ≤ n) (hc : n ≤ c) (hm : c ≤ maxLen) (hnil : a = none → n = 0 ∧ c = 0) (hoff : ∀ x,a = some x → x = ⟨x.block,x.off,none⟩) :
    Calls Tryz.prog 166 #[.slice a n c,.int .i64 i,.int .i64 j] w fun e w' => e = .returned (.slice (cutAt a 2 i j) (j - i) (j - i)) ∧ w' = w := by
  unfold maxLen at hm
  cases a with
  | some x =>
    obtain ⟨b,off,e⟩ : ∃ b off,x = ⟨b,off,none⟩ := ⟨_,_,hoff x rfl⟩
    subst e
    clear hnil hoff
    by_cases h : j = i
    · subst h
      go_enter Tryz.func166,Tryz.ntmps166
      go_wp2
      go_ret
      refine ⟨?_,rfl⟩
      simp [cutAt]
    · have hE : Hid (cutAt (some ⟨b,off,none⟩) 2 i j = some ⟨b,off + i * 2,none⟩) := show _ = _ by simp [cutAt,h]
      go_enter Tryz.func166,Tryz.ntmps166
      go_wp2
      go_ret
      refine ⟨?_,rfl⟩
      rw [hE.out]
      rfl
  | none =>
    obtain ⟨rfl,rfl⟩ := hnil rfl
    obtain rfl : j = 0 := by omega
    obtain rfl : i = 0 := by omega
    go_enter Tryz.func166,Tryz.ntmps166
    go_wp2
    go_ret
    exact ⟨rfl,rfl⟩
set_option maxHeartbeats 1000000 in
theorem impl_cutS (a : Option Addr) (n c i j : Nat) (w : World) (hij : i ≤ j) (hj : j ≤ n) (hc : n ≤ c) (hm : c ≤ maxLen) (hnil : a = none → n = 0 ∧ c = 0) (hoff : ∀ x,a = some x → x = ⟨x.block,x.off,none⟩) :
    Calls Tryz.prog 179 #[.slice a n c,.int .i64 i,.int .i64 j] w fun e w' => e = .returned (.slice (cutAt a 1 i j) (j - i) (j - i)) ∧ w' = w := by
  unfold maxLen at hm
  cases a with
  | some x =>
    obtain ⟨b,off,e⟩ : ∃ b off,x = ⟨b,off,none⟩ := ⟨_,_,hoff x rfl⟩
    subst e
    clear hnil hoff
    by_cases h : j = i
    · subst h
      go_enter Tryz.func179,Tryz.ntmps179
      go_wp2
      go_ret
      refine ⟨?_,rfl⟩
      simp [cutAt]
    · have hE : Hid (cutAt (some ⟨b,off,none⟩) 1 i j = some ⟨b,off + i,none⟩) := show _ = _ by simp [cutAt,h]
      go_enter Tryz.func179,Tryz.ntmps179
      go_wp2
      go_ret
      refine ⟨?_,rfl⟩
      rw [hE.out]
      rfl
  | none =>
    obtain ⟨rfl,rfl⟩ := hnil rfl
    obtain rfl : j = 0 := by omega
    obtain rfl : i = 0 := by omega
    go_enter Tryz.func179,Tryz.ntmps179
    go_wp2
    go_ret
    exact ⟨rfl,rfl⟩
theorem cutAt_off {a : Option Addr} {size i j : Nat} (h : ∀ x,a = some x → x = ⟨x.block,x.off,none⟩) : ∀ x,cutAt a size i j = some x → x = ⟨x.block,x.off,none⟩ := fun x e => by
  unfold cutAt at e
  split at e
  · exact h x e
  · cases a with
    | none => cases e
    | some y => simp at e; rw [← e]
theorem cutAt_none {a : Option Addr} {size i j : Nat} (e : cutAt a size i j = none) : a = none := by
  unfold cutAt at e
  split at e
  · exact e
  · cases a with
    | none => rfl
    | some y => simp at e
theorem cutAt_lt {w : World} {a : Option Addr} {size i j : Nat} (h : ∀ x,a = some x → x.block < w.heap.size) : ∀ x,cutAt a size i j = some x → x.block < w.heap.size := fun x e => by
  unfold cutAt at e
  split at e
  · exact h x e
  · cases a with
    | none => cases e
    | some y => simp at e; rw [← e]; exact h y rfl
theorem cut_curs {w : World} {a : Option Addr} {n i j : Nat} {l : List (Int × Int)} (h : Curs w a n l) (hij : i ≤ j) (hj : j ≤ n) : Curs w (cutAt a 2 i j) (j - i) ((l.drop i).take (j - i)) := by
  have hl : l.length = n := h.1
  refine ⟨by simp; omega,fun k hk => ?_⟩
  have hk' : k < j - i := by simp at hk; omega
  obtain ⟨b,off,e,hc,hd⟩ := h.2 (i + k) (by omega)
  refine ⟨b,off + i * 2,?_,?_,?_⟩
  · unfold cutAt; rw [if_neg (by omega),e]; rfl
  · rw [show off + i * 2 + k * 2 = off + (i + k) * 2 by omega,hc]; simp
  · rw [show off + i * 2 + k * 2 + 1 = off + (i + k) * 2 + 1 by omega,hd]; simp
theorem cut_strs {w : World} {a : Option Addr} {n i j : Nat} {l : List ByteArray} (h : Strs w a n l) (hij : i ≤ j) (hj : j ≤ n) : Strs w (cutAt a 1 i j) (j - i) ((l.drop i).take (j - i)) := by
  have hl : l.length = n := h.1
  refine ⟨by simp; omega,fun k hk => ?_⟩
  have hk' : k < j - i := by simp at hk; omega
  obtain ⟨b,off,e,hc⟩ := h.2 (i + k) (by omega)
  refine ⟨b,off + i * 1,?_,?_⟩
  · unfold cutAt; rw [if_neg (by omega),e]; rfl
  · rw [show off + i * 1 + k = off + (i + k) by omega,hc]; simp
theorem curs_news {w : World} {a : Option Addr} {n : Nat} {l : List (Int × Int)} (h : Curs w a n l) : ∀ x,a = some x → ∀ k u,(curCells l)[k]? = some u → w.cell? (x.add k) = some u := fun x e k u hu => by
  have hk : k < (curCells l).length := (List.getElem?_eq_some_iff.1 hu).1
  rw [curCells_length] at hk
  obtain ⟨b,off,e',hc,hd⟩ := h.2 (k / 2) (by omega)
  rw [e] at e'
  cases e'
  rw [Addr.add_lit]
  have hcc := curCells_at l (k / 2) (by omega)
  by_cases h2 : k = k / 2 * 2
  · rw [← h2] at hc hcc
    rw [hc,← hu,hcc.1]
  · have h3 : k = k / 2 * 2 + 1 := by omega
    rw [show off + k / 2 * 2 + 1 = off + (k / 2 * 2 + 1) by omega,← h3] at hd
    rw [← h3] at hcc
    rw [hd,← hu,hcc.2]
theorem strs_news {w : World} {a : Option Addr} {n : Nat} {l : List ByteArray} (h : Strs w a n l) : ∀ x,a = some x → ∀ k u,(l.map Value.string)[k]? = some u → w.cell? (x.add k) = some u := fun x e k u hu => by
  have hk : k < l.length := by have := (List.getElem?_eq_some_iff.1 hu).1; simpa using this
  obtain ⟨b,off,e',hc⟩ := h.2 k hk
  rw [e] at e'
  cases e'
  rw [Addr.add_lit,hc,← hu]
  simp [hk]
theorem curCells_one (l : List (Int × Int)) : ∀ u ∈ curCells l,u.oneCell' = true := by
  induction l with
  | nil => intro u hu; cases hu
  | cons c r ih =>
    intro u hu
    simp only [curCells,List.mem_cons] at hu
    rcases hu with rfl | rfl | hu
    · rfl
    · rfl
    · exact ih u hu
theorem strCells_one (l : List ByteArray) : ∀ u ∈ l.map Value.string,u.oneCell' = true := by
  intro u hu
  obtain ⟨s,_,rfl⟩ := List.mem_map.1 hu
  rfl
theorem own_curIn {w : World} {base n : Nat} {v : Value} {l : List (Int × Int)} (h : w.ownsRow base 96 2 v n (curCells l)) : ∃ a c,v = .slice a n c ∧ CurIn w a n c l := by
  have h' := h
  rcases h.2 with ⟨rfl,rfl⟩ | ⟨g,cap,cur,rfl,_,hg,hc,_⟩
  · exact ⟨none,0,rfl,own_curs h',(fun x e => by cases e),(fun _ => ⟨rfl,rfl⟩),Nat.le_refl _,(fun x e => by cases e)⟩
  · exact ⟨some ⟨g,0,none⟩,cap,rfl,own_curs h',(fun x e => by cases e; exact (Array.getElem?_eq_some_iff.1 hg).1),(fun e => by cases e),hc,(fun x e => by cases e; rfl)⟩
theorem own_strIn {w : World} {base n : Nat} {v : Value} {l : List ByteArray} (h : w.ownsRow base 9 1 v n (l.map Value.string)) : ∃ a c,v = .slice a n c ∧ StrIn w a n c l := by
  have h' := h
  rcases h.2 with ⟨rfl,rfl⟩ | ⟨g,cap,cur,rfl,_,hg,hc,_⟩
  · exact ⟨none,0,rfl,own_strs h',(fun x e => by cases e),(fun _ => ⟨rfl,rfl⟩),Nat.le_refl _,(fun x e => by cases e)⟩
  · exact ⟨some ⟨g,0,none⟩,cap,rfl,own_strs h',(fun x e => by cases e; exact (Array.getElem?_eq_some_iff.1 hg).1),(fun e => by cases e),hc,(fun x e => by cases e; rfl)⟩
theorem with_fin {w : World} {base m m' : Nat} {v : Value} {l r : List (Int × Int)} {G A : Int} (h : w.ownsRow base 96 2 v m ((curCells l ++ [.int .i64 G,.int .i64 A]) ++ curCells r)) (e : m = m') : w.ownsRow base 96 2 v m' (curCells (l ++ (G,A) :: r)) := by
  subst e
  rw [curCells_append]
  simpa [curCells] using h
theorem alloc2_lt (w : World) (o o' : Obj) : w.heap.size < ((w.alloc o).alloc o').drew.heap.size := by
  have hs : ((w.alloc o).alloc o').drew.heap.size = w.heap.size + 2 := by simp
  omega
theorem with_apart {w w2 : World} {o o' : Obj} {e size n : Nat} {v : Value} {xs : List Value} (ho : w2.ownsRow ((w.alloc o).alloc o').drew.heap.size e size v n xs) (hg : ((w.alloc o).alloc o').drew.grownBy w2 none) : w.heap.size < w2.heap.size ∧ some w.heap.size ≠ v.ownBlock := by
  have h := hg.size
  have hs : ((w.alloc o).alloc o').drew.heap.size = w.heap.size + 2 := by simp
  refine ⟨by omega,fun e => ?_⟩
  have := ho.lt _ e.symm
  omega
set_option maxRecDepth 100000 in
set_option maxHeartbeats 2000000 in
theorem impl_withC (a : Option Addr) (n c k : Nat) (l : List (Int × Int)) (G A : Int) (w : World) (hi : CurIn w a n c l) (hk : k ≤ n) (hc : c ≤ maxLen) (hn : n ≤ 1048576) :
    Calls Tryz.prog 111 #[.slice a n c,.int .i64 k,.agg #[.int .i64 G,.int .i64 A]] w fun e w' => ∃ a' c',e = .returned (.slice a' (n + 1) c') ∧ CurIn w' a' (n + 1) c' (l.take k ++ (G,A) :: l.drop k) ∧ Below w.heap.size w w' := by
  obtain ⟨i0,hi0,hz0,hz1,hz2⟩ := info_parts info_cur
  have H1 : Hid (∀ w,Calls Tryz.prog 166 #[.slice a n c,.int .i64 0,.int .i64 k] w fun e w' => e = .returned (.slice (cutAt a 2 0 k) k k) ∧ w' = w) := fun w => impl_cutC a n c 0 k w (by omega) hk hi.cap hc hi.nil hi.off
  have H2 : Hid (∀ w,Calls Tryz.prog 166 #[.slice a n c,.int .i64 k,.int .i64 n] w fun e w' => e = .returned (.slice (cutAt a 2 k n) (n - k) (n - k)) ∧ w' = w) := fun w => impl_cutC a n c k n w hk (Nat.le_refl _) hi.cap hc hi.nil hi.off
  have HI : Hid (CurIn w a n c l) := hi
  clear hi
  go_enter Tryz.func111,Tryz.ntmps111
  have hl : l.length = n := HI.out.curs.1
  have HL : Hid (l.length = n) := hl
  clear hl
  have HO : Hid (∀ W,Below w.heap.size w W → ∀ x,cutAt a 2 0 k = some x → ∀ j u,(curCells (l.take k))[j]? = some u → W.cell? (x.add j) = some u) := fun W hb => curs_news (n := k) (by have h := cut_curs (curs_below HI.out.curs hb) (Nat.zero_le k) hk; simpa using h)
  have HN : Hid (∀ W,Below w.heap.size w W → ∀ x,cutAt a 2 k n = some x → ∀ j u,(curCells (l.drop k))[j]? = some u → W.cell? (x.add j) = some u) := fun W hb => curs_news (n := n - k) (by have h := cut_curs (curs_below HI.out.curs hb) hk (Nat.le_refl n); rwa [List.take_of_length_le (by simp; rw [HL.out]; omega)] at h)
  have HZ1 : Hid ((curCells (l.take k)).length = k * 2) := show _ = _ by rw [curCells_length,List.length_take,HL.out]; omega
  have HZ2 : Hid ((curCells (l.drop k)).length = (n - k) * 2) := show _ = _ by rw [curCells_length,List.length_drop,HL.out]
  have HN1 : Hid (cutAt a 2 0 k = none → k = 0) := fun e => by have := (HI.out.nil (cutAt_none e)).1; omega
  have HN2 : Hid (cutAt a 2 k n = none → n - k = 0 ∧ n - k = 0) := fun e => by have := (HI.out.nil (cutAt_none e)).1; omega
  obtain ⟨x1,e1⟩ : ∃ x,cutAt a 2 0 k = x := ⟨_,rfl⟩
  obtain ⟨x2,e2⟩ : ∃ x,cutAt a 2 k n = x := ⟨_,rfl⟩
  rw [e1] at H1 HO HN1
  rw [e2] at H2 HN HN2
  clear e1 e2
  have HBW : Hid (Below w.heap.size w ((w.alloc (.cells #[.int .i64 G,.int .i64 A] 96)).alloc (.cells #[.int .i64 G,.int .i64 A] 96)).drew) := (((Below.refl _ _).alloc (Nat.le_refl _) _).alloc (by simp) _).drew
  have HBK : Hid (((w.alloc (.cells #[.int .i64 G,.int .i64 A] 96)).alloc (.cells #[.int .i64 G,.int .i64 A] 96)).drew.heap[w.heap.size + 1]? = some (.cells #[.int .i64 G,.int .i64 A] 96 (0,0))) := by
    have h := heap_alloc_new (w.alloc (.cells #[.int .i64 G,.int .i64 A] 96)) (.cells #[.int .i64 G,.int .i64 A] 96)
    rw [World.size_alloc] at h
    exact h
  go_upto_region 1 with fail
  have HC0 : Hid (((w.alloc (.cells #[.int .i64 G,.int .i64 A] 96)).alloc (.cells #[.int .i64 G,.int .i64 A] 96)).drew.cell? ⟨w.heap.size,0,none⟩ = some (.int .i64 G)) := by show _ = _; simp
  have HC1 : Hid (((w.alloc (.cells #[.int .i64 G,.int .i64 A] 96)).alloc (.cells #[.int .i64 G,.int .i64 A] 96)).drew.cell? ⟨w.heap.size,1,none⟩ = some (.int .i64 A)) := by show _ = _; simp
  go_region_held3 (fun w' => w'.cell? ⟨w.heap.size,0,none⟩ = some (.int .i64 G) ∧ w'.cell? ⟨w.heap.size,1,none⟩ = some (.int .i64 A)) (first | exact ⟨(grown_cell hg3 hzz.1 hzz.2 0).trans ((grown_cell hg2 (alloc2_lt _ _ _) (by simp) 0).trans HC0.out),(grown_cell hg3 hzz.1 hzz.2 1).trans ((grown_cell hg2 (alloc2_lt _ _ _) (by simp) 1).trans HC1.out)⟩ | exact ⟨(grown_cell hg2 (alloc2_lt _ _ _) (by simp) 0).trans HC0.out,(grown_cell hg2 (alloc2_lt _ _ _) (by simp) 1).trans HC1.out⟩ | go_keep)
    ((first
      | (go_at_call_of 166 (Value.int IntKind.i64 0); refine (H1.out _).mono ?_; rintro e w1 ⟨rfl,rfl⟩)
      | (go_at_call 166; refine (H2.out _).mono ?_; rintro e w1 ⟨rfl,rfl⟩)
      | (refine step_append_full (by rfl) _ _ _ (by rfl) 96 i0 _ 2 16 Tryz.underlying160 hi0 hz0 hz1 hz2 (by rfl) (by omega) x1 k (curCells (l.take k)) (by rfl) HN1.out HZ1.out (HO.out _ HBW.out) ⟨w.heap.size + 1,0,none⟩ 1 1 [.int .i64 G,.int .i64 A] (by rfl) (by rfl) (World.news_of_block (cs := #[.int .i64 G,.int .i64 A]) (t := 96) (fr := (0,0)) HBK.out) (by simp [Value.oneCell']) (by omega) (by unfold maxLen; omega) (by omega) ?_; intro v1 w2 ho2 hg2)
      | (refine step_append_own_any (by rfl) _ _ _ (by rfl) _ 96 i0 _ 2 16 Tryz.underlying160 hi0 hz0 hz1 hz2 (by rfl) (by omega) v1 (k + 1) _ (by rfl) ho2 x2 (n - k) (n - k) (curCells (l.drop k)) (by rfl) HZ2.out HN2.out (HN.out _ (HBW.out.grown hg2 (Nat.le_of_lt (alloc2_lt _ _ _)) (fun _ e => by cases e))) (curCells_one _) (by unfold maxLen; omega) (by omega) hg2.size ?_; intro v2 w3 ho3 hg3; have hzz := with_apart ho2 hg2)))
  all_goals
    have hfin := with_fin ho3 (show k + 1 + (n - k) = n + 1 by omega)
    obtain ⟨a',c',hv,hci⟩ := own_curIn hfin
    have HCI : Hid (CurIn w3 a' (n + 1) c' (l.take k ++ (G,A) :: l.drop k)) := hci
    have HB3 : Hid (Below w.heap.size w w3) := (HBW.out.grown hg2 (Nat.le_of_lt (alloc2_lt _ _ _)) (fun _ e => by cases e)).grown hg3 (Nat.le_of_lt hzz.1) (fun q e => by have h := (ho2.lt q e).1; have h2 := alloc2_lt w (.cells #[.int .i64 G,.int .i64 A] 96) (.cells #[.int .i64 G,.int .i64 A] 96); omega)
    rw [hv]
    clear hci hfin hv hzz ho3 hg3 ho2 hg2
    go_wp2
    go_ret
    exact ⟨a',c',rfl,HCI.out,HB3.out⟩
end Go.Proofs.YtahccighonddaaaGreatDoor
namespace Go.Proofs.YtahccighonddaaaGreatDoor
open Go.RowKit
end Go.Proofs.YtahccighonddaaaGreatDoor
namespace Go.Proofs.YtahccighonddaaaGreatDoor
open Go.RowKit
theorem run_append_zero {P : Program} {w : World} (t ty e : TypeId) (i : TypeInfo) (ht : P.underlying t = some (.slice e)) (hi : P.info? e = some i) (b off n : Nat) (ad : Addr) (c : Nat) :
    (Builtin.append_ #[t,t] ty #[.slice (some ⟨b,off,none⟩) n n,.slice (some ad) 0 c]).run P w = .ok (.slice (some ⟨b,off,none⟩) n n) w := by
  have h := run_append_room_cells (P := P) w t ty e i ht hi b off n n ad 0 c [] (by simp) (fun j u h => by simp at h) (fun u h => by cases h) (by omega) (fun j h => by simp at h) (fun j h => by simp at h)
  simpa [World.setCells] using h
theorem wpList_append_zero {P : Program} {w : World} {ops : Array Oper} {rest : List Oper} {o : Oper} {a : Act} {Q : Exit → Act → World → Prop} (hgd : o.guard = none) (s x : Operand) (t : TypeId)
    (ho : o.op = .call { callee := .builtin .append,args := #[s,x],argTypes := #[t,t] }) (e : TypeId) (i : TypeInfo) (ht : P.underlying t = some (.slice e)) (hi : P.info? e = some i) (b off n : Nat) (ad : Addr) (c : Nat)
    (hs : a.eval s = .slice (some ⟨b,off,none⟩) n n) (hx : a.eval x = .slice (some ad) 0 c) (h : wpList P ops Q rest (a.put o.dst (.slice (some ⟨b,off,none⟩) n n)) w) : wpList P ops Q (o :: rest) a w := by
  refine wpList_plain hgd fun K hK => ?_
  have hr := run_append_zero (P := P) (w := w) t o.type e i ht hi b off n ad c
  unfold Oper.wp execOp
  simp only [ho,resolve,invoke,builtin,Sem.run_bind,Sem.run_pure,Result.andThen_ok,List.map_toArray,List.map_cons,List.map_nil,hs,hx,hr]
  exact hK _ _ h
theorem own_capMax {w : World} {base e size n m c : Nat} {a : Option Addr} {xs : List Value} (h : w.ownsRow base e size (.slice a n c) m xs) : c ≤ maxLen := by
  rcases h.2 with ⟨e1,_⟩ | ⟨g,cap,cur,e1,_,_,_,hm,_⟩
  · simp only [Value.slice.injEq] at e1
    rw [e1.2.2]
    exact Nat.zero_le _
  · simp only [Value.slice.injEq] at e1
    rw [e1.2.2]
    exact hm
set_option maxRecDepth 100000 in
set_option maxHeartbeats 2000000 in
theorem impl_withoutM (a : Option Addr) (n c k : Nat) (l : List (Int × Int)) (w : World) (hi : CurIn w a n c l) (hk : k < n) (hc : c ≤ maxLen) (hn : n ≤ 1048576) :
    Calls Tryz.prog 119 #[.slice a n c,.int .i64 k] w fun e w' => ∃ a' c',e = .returned (.slice a' (n - 1) c') ∧ CurIn w' a' (n - 1) c' (l.take k ++ l.drop (k + 1)) ∧ Below w.heap.size w w' ∧ c' ≤ maxLen := by
  obtain ⟨i0,hi0,hz0,hz1,hz2⟩ := info_parts info_cur
  have HL : Hid (l.length = n) := hi.curs.1
  obtain ⟨b,off,rfl⟩ : ∃ b off,a = some ⟨b,off,none⟩ := by
    cases a with
    | none => have := (hi.nil rfl).1; omega
    | some x => exact ⟨x.block,x.off,by rw [← hi.off x rfl]⟩
  have H1 : Hid (∀ w,Calls Tryz.prog 166 #[.slice (some ⟨b,off,none⟩) n c,.int .i64 0,.int .i64 k] w fun e w' => e = .returned (.slice (cutAt (some ⟨b,off,none⟩) 2 0 k) k k) ∧ w' = w) := fun w => impl_cutC _ n c 0 k w (by omega) (by omega) hi.cap hc hi.nil hi.off
  have H2 : Hid (∀ w,Calls Tryz.prog 166 #[.slice (some ⟨b,off,none⟩) n c,.int .i64 ((k : Int) + 1),.int .i64 n] w fun e w' => e = .returned (.slice (cutAt (some ⟨b,off,none⟩) 2 (k + 1) n) (n - (k + 1)) (n - (k + 1))) ∧ w' = w) := fun w => impl_cutC _ n c (k + 1) n w (by omega) (Nat.le_refl _) hi.cap hc hi.nil hi.off
  have HI : Hid (CurIn w (some ⟨b,off,none⟩) n c l) := hi
  clear hi
  have e1 : cutAt (some ⟨b,off,none⟩) 2 0 k = some ⟨b,off,none⟩ := by unfold cutAt; split <;> simp
  obtain ⟨y,e2⟩ : ∃ y,cutAt (some ⟨b,off,none⟩) 2 (k + 1) n = some y := by unfold cutAt; split <;> exact ⟨_,rfl⟩
  have HC1 : Hid (Curs w (some ⟨b,off,none⟩) k (l.take k)) := by
    have h := cut_curs HI.out.curs (Nat.zero_le k) (Nat.le_of_lt hk)
    rw [e1] at h
    show Curs w (some ⟨b,off,none⟩) k (l.take k)
    simpa using h
  have HC2 : Hid (Curs w (some y) (n - (k + 1)) (l.drop (k + 1))) := by
    have h := cut_curs HI.out.curs (show k + 1 ≤ n by omega) (Nat.le_refl n)
    rw [e2,List.take_of_length_le (by simp; rw [HL.out]; omega)] at h
    exact h
  rw [e1] at H1
  rw [e2] at H2
  clear e1 e2
  have HZ1 : Hid ((curCells (l.take k)).length = k * 2) := show _ = _ by rw [curCells_length,List.length_take,HL.out]; omega
  have HZ2 : Hid ((curCells (l.drop (k + 1))).length = (n - (k + 1)) * 2) := show _ = _ by rw [curCells_length,List.length_drop,HL.out]
  go_enter Tryz.func119,Tryz.ntmps119
  go_wp2_with fail
  refine (H1.out _).mono ?_
  rintro e w1 ⟨rfl,hw1⟩
  rw [hw1]
  clear hw1 w1
  go_wp2_with fail
  refine (H2.out _).mono ?_
  rintro e w1 ⟨rfl,hw1⟩
  rw [hw1]
  clear hw1 w1
  by_cases hm : n = k + 1
  · subst hm
    have HF : Hid (CurIn w (some ⟨b,off,none⟩) k k (l.take k ++ l.drop (k + 1))) := by
      have hd : l.drop (k + 1) = [] := List.drop_eq_nil_of_le (by rw [HL.out]; exact Nat.le_refl _)
      rw [hd,List.append_nil]
      exact ⟨HC1.out,HI.out.lt,(fun e => by cases e),Nat.le_refl _,(fun x e => by cases e; rfl)⟩
    rw [show k + 1 - (k + 1) = 0 by omega]
    go_wp2_with (at_builtin; refine wpList_append_zero (by rfl) _ _ _ (by rfl) 96 i0 Tryz.underlying160 hi0 b off k y 0 (by rfl) (by rfl) ?_)
    go_ret
    exact ⟨some ⟨b,off,none⟩,k,rfl,HF.out,Below.refl _ _,by unfold maxLen; omega⟩
  · go_wp2_with (at_builtin; refine wpList_append_full (by rfl) _ _ _ (by rfl) 96 i0 _ 2 16 Tryz.underlying160 hi0 hz0 hz1 hz2 (by rfl) (by omega) (some ⟨b,off,none⟩) k (curCells (l.take k)) (by rfl) (fun e => by cases e) HZ1.out (curs_news HC1.out) y (n - (k + 1)) (n - (k + 1)) (curCells (l.drop (k + 1))) (by rfl) HZ2.out (curs_news HC2.out y rfl) (curCells_one _) (by omega) (by unfold maxLen; omega) (by omega) ?_; intro v1 w2 ho2 hg2)
    have hfin : w2.ownsRow w.heap.size 96 2 v1 (n - 1) (curCells (l.take k ++ l.drop (k + 1))) := by
      rw [curCells_append,show n - 1 = k + (n - (k + 1)) by omega]
      exact ho2
    obtain ⟨a',c',hv,hci⟩ := own_curIn hfin
    have hmx : Hid (c' ≤ maxLen) := own_capMax (by rw [← hv]; exact hfin)
    have HCI : Hid (CurIn w2 a' (n - 1) c' (l.take k ++ l.drop (k + 1))) := hci
    have HB3 : Hid (Below w.heap.size w w2) := (Below.refl _ _).grown hg2 (Nat.le_refl _) (fun q e => by cases e)
    rw [hv]
    clear hci hfin hv ho2 hg2
    go_wp2
    go_ret
    exact ⟨a',c',rfl,HCI.out,HB3.out,hmx.out⟩
end Go.Proofs.YtahccighonddaaaGreatDoor
