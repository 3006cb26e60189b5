import Derived.Test.YtahccighonddaaaGreatDoorTextOut
import Derived.Laws.CopyOwn
import Derived.Laws.BitsAllLaws
import Derived.Test.YtahccighonddaaaGreatDoorCrcMath
namespace Go.Proofs.YtahccighonddaaaGreatDoor
open Go.RowKit
theorem run_copy_str {P : Program} (w : World) (dT sT ty elem : TypeId) (hu : P.underlying dT = some (.slice elem)) (hsz : (P.info? elem).map (·.size) = some 1)
    (dp : Option Addr) (dLen dCap : Nat) (str : ByteArray) (g off : Nat) (cur : List Value) (t : TypeId) (hg : w.heap[g]? = some (.cells cur.toArray t (0,0))) (hle : str.size ≤ dLen)
    (hpos : 0 < str.size → dp = some ⟨g,off,none⟩) (hfit : off + str.size ≤ cur.length) (B : Nat) (w0 : World) (hb : Below B w0 w) (hBg : B ≤ g) :
    ∃ w',(Builtin.copy_ #[dT,sT] ty #[.slice dp dLen dCap,.string str]).run P w = .ok (goInt str.size) w' ∧
      Hid (w'.heap[g]? = some (.cells (splice cur off (str.data.toList.map bv)).toArray t (0,0))) ∧ Hid (Below B w0 w') := by
  have hlen : (str.data.toList.map bv).length = str.size := by simp
  have hmin : Nat.min str.size dLen = str.size := Nat.min_eq_left hle
  cases hq : P.info? elem with
  | none => simp [hq] at hsz
  | some i =>
    by_cases h0 : str.size = 0
    · have he : str.data.toList = [] := List.eq_nil_of_length_eq_zero (by simpa using h0)
      refine ⟨w,?_,show _ = _ by rw [he]; simpa [splice] using hg,hb⟩
      cases dp <;> simp [Builtin.copy_,run_underlying hu,Builtin.lenOf,Builtin.firstCells,sizeOf,typeInfo,hq,h0,storeCells]
    · have hdp := hpos (by omega)
      subst hdp
      have htk : List.take str.size (List.map (fun b : UInt8 => Value.int IntKind.u8 (b.toNat : Int)) str.data.toList) = str.data.toList.map bv := by
        rw [List.take_of_length_le (by simp)]
        rfl
      have hst := run_storeCells_at P g off t (str.data.toList.map bv) 0 cur.toArray w hg (by rw [hlen]; simpa using hfit) (bv_one _)
      rw [hlen] at hst
      simp only [Nat.add_zero] at hst
      refine ⟨w.setRow g (cur.take off ++ str.data.toList.map bv ++ cur.drop (off + str.size)).toArray,?_,show _ = _ from ?_,below_setRow hb hBg _⟩
      · simp [Builtin.copy_,run_underlying hu,Builtin.lenOf,Builtin.firstCells,sizeOf,typeInfo,hq,hmin]
        rw [htk,hst]
        simp [Result.andThen]
      · rw [setRow_heap w g _ _ t _ hg]
        simp [splice,hlen]
theorem owns_of_row {w : World} {base g n : Nat} {e : TypeId} {l : List UInt8} {cur : List Value} (hb : base ≤ g) (hg : w.heap[g]? = some (.cells cur.toArray e (0,0))) (hc : cur = l.map bv) (hn : l.length = n) (hm : n ≤ maxLen) :
    w.ownsRow base e 1 (.slice (some ⟨g,0,none⟩) n n) l.length (l.map bv) := by
  subst hc hn
  exact ⟨by simp,.inr ⟨g,l.length,_,rfl,hb,hg,Nat.le_refl _,hm,by simp,List.take_of_length_le (by simp)⟩⟩
theorem splice_two {α : Type} (Z X Y : List α) (hZ : Z.length = X.length + Y.length) : splice (splice Z 0 X) X.length Y = X ++ Y := by
  have h : (Z.drop X.length).drop Y.length = [] := by rw [List.drop_drop]; exact List.drop_of_length_le (by omega)
  simp [splice,List.drop_append]
  omega
theorem mk_bytes (n : Nat) (x : Int) (hx : x = n) (hn : n ≤ 4194304) : ∃ Z : List Value,Hid (Z.length = n) ∧ ∀ u : World,(Instr.makeSlice 213 (.int .i64 x) (.int .i64 x)).run Tryz.prog u =
      .ok (.slice (some ⟨u.heap.size,0,none⟩) n n) (u.alloc (.cells Z.toArray 5)) := by
  obtain ⟨i0,hi,hz0,hz1,hz2⟩ := info_parts info_u8
  subst hx
  refine ⟨(madeCells #[.int .u8 0] n).toList,show _ = _ by simp [madeCells],fun u => ?_⟩
  have h := run_make (P := Tryz.prog) u 213 5 i0 (.int .u8 0) Tryz.underlying213 hi hz0 .i64 .i64 (n : Int) (n : Int) (by omega) (Int.le_refl _) (by rw [hz2]; omega) (by omega)
  simpa [hz1,Value.cells] using h
theorem size1_u8 : (Tryz.prog.info? 5).map (·.size) = some 1 := by kernel_rfl
theorem run_copy_no {P : Program} (w : World) (dT sT ty elem : TypeId) (hu : P.underlying dT = some (.slice elem)) (hsz : (P.info? elem).map (·.size) = some 1) (dp : Option Addr) (dLen dCap : Nat) :
    (Builtin.copy_ #[dT,sT] ty #[.slice dp dLen dCap,.string ByteArray.empty]).run P w = .ok (goInt 0) w := by
  cases hq : P.info? elem with
  | none => simp [hq] at hsz
  | some i => cases dp <;> simp [Builtin.copy_,run_underlying hu,Builtin.lenOf,Builtin.firstCells,sizeOf,typeInfo,hq,storeCells]
set_option maxHeartbeats 1000000 in
theorem impl_joinTexts (f b : ByteArray) (w : World) (hs : f.size + b.size ≤ 1048576) :
    Calls Tryz.prog 238 #[.string f,.string b] w fun e w' => e = .returned (.string ⟨(f.data.toList ++ b.data.toList).toArray⟩) ∧ Below w.heap.size w w' := by
  by_cases hbe : b = ByteArray.empty
  · subst hbe
    have e0 : ByteArray.empty.size = 0 := rfl
    rw [e0] at hs
    obtain ⟨Z,hZ,hmk⟩ := mk_bytes f.size (f.size : Int) rfl (by omega)
    obtain ⟨w1,hc1,hg1,hb1⟩ := run_copy_str (P := Tryz.prog) (w.alloc (.cells Z.toArray 5)) 213 9 3 5 Tryz.underlying213 size1_u8 (some ⟨w.heap.size,0,none⟩) f.size f.size f w.heap.size 0 Z 5 (heap_alloc_new w _) (by omega) (fun _ => rfl) (by rw [hZ.out]; omega) w.heap.size w ((Below.refl _ _).alloc (Nat.le_refl _) _) (Nat.le_refl _)
    have hc2 := fun dp dLen dCap => run_copy_no (P := Tryz.prog) w1 213 9 3 5 Tryz.underlying213 size1_u8 dp dLen dCap
    have hcur : splice Z 0 (f.data.toList.map bv) = f.data.toList.map bv := by
      simp [splice]; have := hZ.out; omega
    have hcv := conv_own (P := Tryz.prog) (dst := 9) Tryz.underlying213 Tryz.underlying5 Tryz.underlying9 (owns_of_row (n := f.size) (Nat.le_refl w.heap.size) hg1.out hcur (by simp) (by unfold maxLen; omega))
    clear hcur
    go_enter Tryz.func238,Tryz.ntmps238
    go_wp2
    go_ret
    exact ⟨by simp,hb1.out⟩
  obtain ⟨Z,hZ,hmk⟩ := mk_bytes (f.size + b.size) ((f.size : Int) + (b.size : Int)) (by omega) (by omega)
  obtain ⟨w1,hc1,hg1,hb1⟩ := run_copy_str (P := Tryz.prog) (w.alloc (.cells Z.toArray 5)) 213 9 3 5 Tryz.underlying213 size1_u8 (some ⟨w.heap.size,0,none⟩) (f.size + b.size) (f.size + b.size) f w.heap.size 0 Z 5 (heap_alloc_new w _) (by omega) (fun _ => rfl) (by rw [hZ.out]; omega) w.heap.size w ((Below.refl _ _).alloc (Nat.le_refl _) _) (Nat.le_refl _)
  obtain ⟨w2,hc2,hg2,hb2⟩ := run_copy_str (P := Tryz.prog) w1 213 9 3 5 Tryz.underlying213 size1_u8 (some ⟨w.heap.size,f.size,none⟩) b.size b.size b w.heap.size f.size _ 5 hg1.out (by omega) (fun _ => rfl) (by rw [length_splice _ _ _ (by rw [hZ.out]; simp),hZ.out]; omega) w.heap.size w hb1.out (Nat.le_refl _)
  have hcur : splice (splice Z 0 (f.data.toList.map bv)) f.size (b.data.toList.map bv) = (f.data.toList ++ b.data.toList).map bv := by
    have h := splice_two Z (f.data.toList.map bv) (b.data.toList.map bv) (by rw [hZ.out]; simp)
    simpa using h
  have hcv := conv_own (P := Tryz.prog) (dst := 9) Tryz.underlying213 Tryz.underlying5 Tryz.underlying9 (owns_of_row (n := f.size + b.size) (Nat.le_refl w.heap.size) hg2.out hcur (by simp) (by unfold maxLen; omega))
  clear hcur
  go_enter Tryz.func238,Tryz.ntmps238
  go_wp2
  go_ret
  exact ⟨rfl,hb2.out⟩
set_option maxHeartbeats 1000000 in
theorem impl_copyText (f : ByteArray) (w : World) (hs : f.size ≤ 1048576) :
    Calls Tryz.prog 167 #[.string f] w fun e w' => e = .returned (.string f) ∧ Below w.heap.size w w' := by
  obtain ⟨Z,hZ,hmk⟩ := mk_bytes f.size (f.size : Int) rfl (by omega)
  obtain ⟨w1,hc1,hg1,hb1⟩ := run_copy_str (P := Tryz.prog) (w.alloc (.cells Z.toArray 5)) 213 9 3 5 Tryz.underlying213 size1_u8 (some ⟨w.heap.size,0,none⟩) f.size f.size f w.heap.size 0 Z 5 (heap_alloc_new w _) (by omega) (fun _ => rfl) (by rw [hZ.out]; omega) w.heap.size w ((Below.refl _ _).alloc (Nat.le_refl _) _) (Nat.le_refl _)
  have hcur : splice Z 0 (f.data.toList.map bv) = f.data.toList.map bv := by
    simp [splice]; have := hZ.out; omega
  have hcv := conv_own (P := Tryz.prog) (dst := 9) Tryz.underlying213 Tryz.underlying5 Tryz.underlying9 (owns_of_row (n := f.size) (Nat.le_refl w.heap.size) hg1.out hcur (by simp) (by unfold maxLen; omega))
  clear hcur
  go_enter Tryz.func167,Tryz.ntmps167
  go_wp2
  go_ret
  exact ⟨rfl,hb1.out⟩
end Go.Proofs.YtahccighonddaaaGreatDoor
namespace Go.Proofs.YtahccighonddaaaGreatDoor
open Go.RowKit
theorem u32_xorM (R : Nat) (h : R < 4294967296) : bits .xor .u32 ((R : Int) / 2) 3988292384 = ((R / 2 ^^^ 3988292384 : Nat) : Int) := by
  have h := u32_xor_nat (R / 2) 3988292384 (by omega) (by omega)
  have e : ((R / 2 : Nat) : Int) = (R : Int) / 2 := by omega
  rw [e] at h
  exact h
theorem u32_low (x : Nat) (h : x < 4294967296) : bits .and .u32 (x : Int) 1 = ((x % 2 : Nat) : Int) := by
  have h := u32_and_nat x 1 h (by omega)
  rw [nat_mask1] at h
  exact h
theorem half_pow (b k : Nat) : b / 2 ^ k / 2 = b / 2 ^ (k + 1) := by rw [Nat.div_div_eq_div_mul,Nat.pow_succ]
set_option maxHeartbeats 1000000 in
theorem impl_sumByte (r b : Nat) (w : World) (hr : r < 4294967296) (hb : b < 256) :
    Calls Tryz.prog 264 #[.int .u32 r,.int .u8 b] w fun e w' => e = .returned (.int .u32 (crcByte r b : Nat)) ∧ w' = w := by
  go_enter Tryz.func264,Tryz.ntmps264
  go_wp2
  go_loop [0,1,6] (fun x y i => ∃ (k R B : Nat),k ≤ 8 ∧ i = .int .i64 k ∧ x = .int .u32 R ∧ y = .int .u8 B ∧ R < 4294967296 ∧ B < 256 ∧ Hid (R ^^^ B = crcSteps k (r ^^^ b)) ∧ Hid (B = b / 2 ^ k)) (fun _ _ i => 8 - (intOf i).toNat)
  case atStart => exact ⟨0,r,b,by omega,rfl,rfl,rfl,hr,hb,rfl,by show b = b / 1; omega⟩
  case round =>
    obtain ⟨k,R,B,hk,rfl,rfl,rfl,hR,hB,hx,hd⟩ := hrel
    by_cases hlt : k < 8
    · have hxor : bits .xor .u32 (R : Int) (B : Int) = ((R ^^^ B : Nat) : Int) := u32_xor_nat R B hR (by omega)
      have hRB : R ^^^ B < 4294967296 := xor_lt32 hR (by omega)
      by_cases hp : (R ^^^ B) % 2 = 1
      · have HP : Hid ((R ^^^ B) % 2 = 1) := hp
        have hand : (bits .and .u32 ((R ^^^ B : Nat) : Int) 1 == 1) = true := by rw [u32_low _ hRB,hp]; rfl
        clear hp
        go_wp2
        go_round
        case rel => exact ⟨k + 1,R / 2 ^^^ 3988292384,B / 2,by omega,by go_num,val_int (u32_xorM R hR),val_int (by omega),xor_lt32 (by omega) (by omega),by omega,by show _ = crcStep _; rw [← hx.out]; exact step_apart_one HP.out,by rw [hd.out]; exact half_pow b k⟩
        case measure => simp [intOf]; omega
      · have HP : Hid (¬ (R ^^^ B) % 2 = 1) := hp
        have hand : (bits .and .u32 ((R ^^^ B : Nat) : Int) 1 == 1) = false := by rw [u32_low _ hRB,show (R ^^^ B) % 2 = 0 by omega]; rfl
        clear hp
        go_wp2
        go_round
        case rel => exact ⟨k + 1,R / 2,B / 2,by omega,by go_num,val_int (by omega),val_int (by omega),by omega,by omega,by show _ = crcStep _; rw [← hx.out]; exact step_apart_zero HP.out,by rw [hd.out]; exact half_pow b k⟩
        case measure => simp [intOf]; omega
    · go_wp2
      go_ret
      have e : k = 8 := by omega
      subst e
      have e0 : B = 0 := by rw [hd.out]; show b / 256 = 0; omega
      have hx' := hx.out
      rw [e0,Nat.xor_zero] at hx'
      exact ⟨ret_int (by rw [hx']; rfl),rfl⟩
theorem u32_not (c : Nat) (h : c < 4294967296) : bits .xor .u32 IntKind.u32.max (c : Int) = ((4294967295 - c : Nat) : Int) := by
  have e : IntKind.u32.max = ((4294967295 : Nat) : Int) := by decide
  rw [e,u32_xor_nat _ _ (by omega) h,Nat.xor_comm,xor_ones c h]
theorem u32_ones (c : Nat) (h : c < 4294967296) : bits .xor .u32 (c : Int) 4294967295 = ((4294967295 - c : Nat) : Int) := by
  have h1 := u32_xor_nat c 4294967295 h (by omega)
  rw [xor_ones c h] at h1
  exact h1
set_option maxHeartbeats 1000000 in
theorem impl_crcMore (c : Nat) (s : ByteArray) (w : World) (hc : c < 4294967296) (hs : s.size ≤ 8000) :
    Calls Tryz.prog 260 #[.int .i64 c,.string s] w fun e w' => e = .returned (.int .i64 (crcOf c s.data.toList : Nat)) ∧ w' = w := by
  have hu := u32_not c hc
  go_enter Tryz.func260,Tryz.ntmps260
  go_wp2
  go_loop [5,6] (fun x i => ∃ (k R : Nat),k ≤ s.size ∧ i = .int .i64 k ∧ x = .int .u32 R ∧ R < 4294967296 ∧ Hid (R = crcReg (4294967295 - c) (s.data.toList.take k))) (fun _ i => s.size - (intOf i).toNat)
  case atStart => exact ⟨0,4294967295 - c,by omega,rfl,rfl,by omega,rfl⟩
  case round =>
    obtain ⟨k,R,hk,rfl,rfl,hR,hx⟩ := hrel
    by_cases hlt : k < s.size
    · clear hu
      go_wp2_with (first | (go_at_call 264; refine (impl_sumByte _ _ _ hR s[k].toNat_lt).mono ?_; rintro e w' ⟨rfl,rfl⟩))
      go_round
      case rel => exact ⟨k + 1,crcByte R s[k].toNat,by omega,by go_num,rfl,crcByte_lt hR s[k].toNat_lt,by show crcByte R _ = crcReg _ _; rw [take_snoc s k hlt,crcReg_snoc,← hx.out]⟩
      case measure => simp [intOf]; omega
    · clear hu
      have hu := u32_not R hR
      have he : Hid (4294967295 - R = crcOf c s.data.toList) := by show _ = _; rw [crcOf,hx.out,take_all s k hlt]
      go_wp2
      go_ret
      exact ⟨ret_int (by rw [he.out]),rfl⟩
set_option maxHeartbeats 1000000 in
theorem spec_l01Crc (c : Nat) (s : ByteArray) (w : World) (hc : c < 4294967296) (hs : s.size ≤ 8000) :
    Calls Tryz.prog 182 #[.int .i64 c,.string s] w fun e w' => e = .returned (.int .i64 (crcOf c s.data.toList : Nat)) ∧ w' = w := by
  have hu := u32_ones c hc
  go_enter Tryz.func182,Tryz.ntmps182
  go_wp2
  go_loop [5,6,7] (fun x i _ => ∃ (k R : Nat),k ≤ s.size ∧ i = .int .i64 k ∧ x = .int .u32 R ∧ R < 4294967296 ∧ Hid (R = crcReg (4294967295 - c) (s.data.toList.take k))) (fun _ i _ => s.size - (intOf i).toNat)
  case atStart => exact ⟨0,4294967295 - c,by omega,rfl,rfl,by omega,rfl⟩
  case round =>
    obtain ⟨k,R,hk,rfl,rfl,hR,hx⟩ := hrel
    clear hu
    by_cases hlt : k < s.size
    · have hsk := s[k].toNat_lt
      have hxor : bits .xor .u32 (R : Int) (s[k].toNat : Int) = ((R ^^^ s[k].toNat : Nat) : Int) := u32_xor_nat R _ hR (by omega)
      go_wp2
      clear hxor
      go_loop [5,7] (fun x i => ∃ (j X : Nat),j ≤ 8 ∧ i = .int .i64 j ∧ x = .int .u32 X ∧ X < 4294967296 ∧ Hid (X = crcSteps j (R ^^^ s[k].toNat))) (fun _ i => 8 - (intOf i).toNat)
      case atStart => exact ⟨0,R ^^^ s[k].toNat,by omega,rfl,rfl,xor_lt32 hR (by omega),rfl⟩
      case round =>
        obtain ⟨j,X,hj,rfl,rfl,hX,hy⟩ := hrel
        by_cases hlt8 : j < 8
        · by_cases hp : X % 2 = 1
          · have HP : Hid (X % 2 = 1) := hp
            have hand : (bits .and .u32 (X : Int) 1 == 1) = true := by rw [u32_low _ hX,hp]; rfl
            clear hp
            go_wp2
            go_round
            case rel => exact ⟨j + 1,X / 2 ^^^ 3988292384,by omega,by go_num,val_int (u32_xorM X hX),xor_lt32 (by omega) (by omega),by show _ = crcStep _; rw [← hy.out,crcStep,if_pos HP.out]⟩
            case measure => simp [intOf]; omega
          · have HP : Hid (¬ X % 2 = 1) := hp
            have hand : (bits .and .u32 (X : Int) 1 == 1) = false := by rw [u32_low _ hX,show X % 2 = 0 by omega]; rfl
            clear hp
            go_wp2
            go_round
            case rel => exact ⟨j + 1,X / 2,by omega,by go_num,val_int (by omega),by omega,by show _ = crcStep _; rw [← hy.out,crcStep,if_neg HP.out]⟩
            case measure => simp [intOf]; omega
        · have HE : Hid (X = crcByte R s[k].toNat) := by
            have e : j = 8 := by omega
            subst e
            exact hy.out
          go_wp2
          go_round
          case rel => exact ⟨k + 1,X,by omega,by go_num,rfl,hX,by show X = crcReg _ _; rw [take_snoc s k hlt,crcReg_snoc,← hx.out]; exact HE.out⟩
          case measure => simp [intOf]; omega
    · have hu := u32_ones R hR
      have he : Hid (4294967295 - R = crcOf c s.data.toList) := by show _ = _; rw [crcOf,hx.out,take_all s k hlt]
      go_wp2
      go_ret
      exact ⟨ret_int (by rw [he.out]),rfl⟩
theorem impl_crc (s : ByteArray) (w : World) (hs : s.size ≤ 8000) :
    Calls Tryz.prog 255 #[.string s] w fun e w' => e = .returned (.int .i64 (crcOf 0 s.data.toList : Nat)) ∧ w' = w := by
  have HC : Hid (∀ w,Calls Tryz.prog 260 #[.int .i64 0,.string s] w fun e w' => e = .returned (.int .i64 (crcOf 0 s.data.toList : Nat)) ∧ w' = w) := fun w => impl_crcMore 0 s w (by omega) hs
  go_enter Tryz.func255,Tryz.ntmps255
  go_wp2_with (first | (go_at_call 260; refine (HC.out _).mono ?_; rintro e w' ⟨rfl,rfl⟩))
  go_ret
  exact ⟨rfl,rfl⟩
end Go.Proofs.YtahccighonddaaaGreatDoor
namespace Go.Proofs.YtahccighonddaaaGreatDoor
open Go.RowKit
def four (c : Nat) : List UInt8 := [UInt8.ofNat (c % 256),UInt8.ofNat (c / 256 % 256),UInt8.ofNat (c / 65536 % 256),UInt8.ofNat (c / 16777216 % 256)]
def sealBytes (l : List UInt8) : List UInt8 := l ++ four (crcOf 0 l)
theorem four_len (c : Nat) : (four c).length = 4 := rfl
theorem conv4 (w : World) (a b c d : Int) (l : List UInt8) (hl : [a,b,c,d] = l.map (fun x : UInt8 => (x.toNat : Int))) :
    (convert 213 9 (.slice (some ⟨w.heap.size,0,none⟩) 4 4)).run Tryz.prog (w.alloc (.cells #[.int .u8 a,.int .u8 b,.int .u8 c,.int .u8 d] 5)) =
      .ok (.string ⟨l.toArray⟩) (w.alloc (.cells #[.int .u8 a,.int .u8 b,.int .u8 c,.int .u8 d] 5)) := by
  have hlen : l.length = 4 := by have := congrArg List.length hl; simpa using this.symm
  have hc : ([.int .u8 a,.int .u8 b,.int .u8 c,.int .u8 d] : List Value) = l.map bv := by
    have := congrArg (List.map (Value.int .u8)) hl
    rw [List.map_map] at this
    exact this
  have h := conv_own (P := Tryz.prog) (dst := 9) Tryz.underlying213 Tryz.underlying5 Tryz.underlying9 (owns_of_row (w := w.alloc (.cells #[.int .u8 a,.int .u8 b,.int .u8 c,.int .u8 d] 5)) (n := 4) (Nat.le_refl w.heap.size) (heap_alloc_new w _) hc hlen (by decide))
  exact h
theorem mk4 (w : World) : (Instr.makeSlice 213 (.int .i64 4) (.int .i64 4)).run Tryz.prog w = .ok (.slice (some ⟨w.heap.size,0,none⟩) 4 4) (w.alloc (.cells #[.int .u8 0,.int .u8 0,.int .u8 0,.int .u8 0] 5)) := by kernel_rfl
set_option maxHeartbeats 1000000 in
theorem impl_sumText (c : Nat) (w : World) (hc : c < 4294967296) :
    Calls Tryz.prog 254 #[.int .i64 c] w fun e w' => e = .returned (.string ⟨(four c).toArray⟩) ∧ Below w.heap.size w w' := by
  have hmk := mk4
  have hcv := conv4 w ((c : Int) % 256) ((c : Int) / 256 % 256) ((c : Int) / 256 / 256 % 256) ((c : Int) / 256 / 256 / 256) (four c) (by simp [four]; omega)
  go_enter Tryz.func254,Tryz.ntmps254
  go_wp2
  refine wp_loop_rounds 5 ?_
  rw [rounds_succ]
  go_wp2
  rw [rounds_succ]
  go_wp2
  rw [rounds_succ]
  go_wp2
  rw [rounds_succ]
  go_wp2
  rw [rounds_succ]
  go_wp2
  go_ret
  exact ⟨rfl,(Below.refl _ _).alloc (Nat.le_refl _) _⟩
set_option maxHeartbeats 1000000 in
theorem spec_four (c : Nat) (w : World) (hc : c < 4294967296) :
    Calls Tryz.prog 181 #[.int .i64 c] w fun e w' => e = .returned (.string ⟨(four c).toArray⟩) ∧ Below w.heap.size w w' := by
  have hcv := conv4 w ((c : Int) % 256) ((c : Int) / 256 % 256) ((c : Int) / 65536 % 256) ((c : Int) / 16777216) (four c) (by simp [four]; omega)
  go_enter Tryz.func181,Tryz.ntmps181
  go_wp2
  go_ret
  exact ⟨rfl,(Below.refl _ _).alloc (Nat.le_refl _) _⟩
theorem impl_seal (s : ByteArray) (w : World) (hs : s.size ≤ 7996) :
    Calls Tryz.prog 240 #[.string s] w fun e w' => e = .returned (.string ⟨(sealBytes s.data.toList).toArray⟩) ∧ Below w.heap.size w w' := by
  go_enter Tryz.func240,Tryz.ntmps240
  go_wp2_with fail
  refine (impl_crc s _ (by omega)).mono ?_
  rintro e w1 ⟨rfl,rfl⟩
  go_wp2_with fail
  refine (impl_sumText _ _ (crcOf_lt _ _)).mono ?_
  rintro e w2 ⟨rfl,hb2⟩
  go_wp2_with fail
  refine (impl_joinTexts s _ _ (by rw [size_mk (four _),four_len]; omega)).mono ?_
  rintro e w3 ⟨rfl,hb3⟩
  go_wp2
  go_ret
  exact ⟨by simp [sealBytes],hb2.trans (hb3.mono hb2.size)⟩
theorem spec_seal (s : ByteArray) (w : World) (hs : s.size ≤ 7996) :
    Calls Tryz.prog 126 #[.string s] w fun e w' => e = .returned (.string ⟨(sealBytes s.data.toList).toArray⟩) ∧ Below w.heap.size w w' := by
  have HC : Hid (∀ w,Calls Tryz.prog 182 #[.int .i64 0,.string s] w fun e w' => e = .returned (.int .i64 (crcOf 0 s.data.toList : Nat)) ∧ w' = w) := fun w => spec_l01Crc 0 s w (by omega) (by omega)
  have hl : (four (crcOf 0 s.data.toList)).length ≤ 4 := Nat.le_refl _
  go_enter Tryz.func126,Tryz.ntmps126
  go_wp2_with fail
  refine (HC.out _).mono ?_
  rintro e w1 ⟨rfl,rfl⟩
  go_wp2_with fail
  refine (spec_four _ _ (crcOf_lt _ _)).mono ?_
  rintro e w2 ⟨rfl,hb2⟩
  go_wp2
  go_ret
  exact ⟨ret_string ((cat_eq' s _).trans rfl),hb2⟩
end Go.Proofs.YtahccighonddaaaGreatDoor
