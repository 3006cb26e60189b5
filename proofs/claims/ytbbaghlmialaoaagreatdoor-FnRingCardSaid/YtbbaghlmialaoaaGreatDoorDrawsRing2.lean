/- A drawn ring. -/
import Derived.Test.YtbbaghlmialaoaaGreatDoorDrawsRing
import Derived.Deep.CutBlock
import Derived.Deep.RegionLaw
namespace Go.Proofs.YtbbaghlmialaoaaGreatDoor
open Go.RowKit
attribute [local go_sem ↓] Go.wp_at_zero Go.wp_at_succ
theorem field_ring (C F : Int) (a : Option Addr) (n q : Nat) (b : Option Addr) (m p : Nat) (k t : Int) (d : ByteArray) (c : Int) (w : World) : (Instr.field 32 (ringOutV C F a n q b m p k t d c) 0).run Tryz.prog w = .ok (ringV C F a n q b m p) w := by kernel_rfl
/-- How great a drawn ring may be. -/
structure Bnd (C F : Int) (rs : List ByteArray) (cs : List (Int × Int)) : Prop where
  c : 0 ≤ C ∧ C ≤ 20
  f : -1 ≤ F ∧ F ≤ 1000001
  r : rs.length ≤ 17
  k : cs.length ≤ 5
  s : ∀ s ∈ rs, s.size ≤ 100
theorem rg_first {w w3 : World} {g : Nat} {aa : Option Addr} {len cap B : Nat} (v : Int) (hr : w3.heap[w.heap.size]? = some (ringObj 0 0 none 0 0 none 0 0)) (hs : Src w3 g aa len cap) (hy : Bytes B w3 aa len) (hb : DG g w w3) (hg : g < w.heap.size) (hB : B ≤ g) :
    RG w (w3.alloc (ringObj v 0 none 0 0 none 0 0)) g aa len cap B w3.heap.size v 0 none 0 0 none 0 0 [] [] := by
  have hz := blk_lt hr
  have hn := below_new w3 (ringObj v 0 none 0 0 none 0 0)
  exact ⟨blk hr hn, heap_alloc_new _ _, ⟨World.ownsRow_nil _ _ _ _, World.ownsRow_nil _ _ _ _⟩, src_below hs hn (by omega), bytes_below hy hn (by omega), hb.trans (hn.mono (by omega)), hz, hg, hB⟩
theorem right_bnd {C F : Int} {rs : List ByteArray} {cs : List (Int × Int)} (h : ringRightB C F rs cs = true) : (0 ≤ F ∧ F ≤ 1000000) ∧ (0 ≤ C ∧ C ≤ 16) ∧ rs.length ≤ 16 ∧ cs.length ≤ 4 := by
  obtain ⟨h1, h2, h3, h4, h5, _⟩ := (sright_iff ..).1 h
  unfold capB at h1
  simp only [Bool.or_eq_true, beq_iff_eq] at h1
  omega
theorem boxKeepG {lo g : Nat} {u v : World} {b : Nat} (h : BoxAt lo u b) (hg : u.grownBy v (some g)) (hlo : g < lo) : BoxAt lo v b := ⟨(hg.block _ (blk_lt h.box) (fun e => by simp at e; have := h.lo; omega)).trans h.box, h.lo⟩
theorem boxNewG {lo g : Nat} {W v : World} (h : lo ≤ W.heap.size) (hg : (W.alloc outObj0).grownBy v (some g)) (hlo : g < lo) : BoxAt lo v W.heap.size := ⟨(hg.block _ (by rw [World.size_alloc]; omega) (fun e => by simp at e; omega)).trans (heap_alloc_new _ _), h⟩
theorem dhid {a b : Nat} (h : a < b) : Hid (a < b) := h
theorem dboxLt {W v : World} (_ : Below (W.alloc outObj0).heap.size (W.alloc outObj0) v) : W.heap.size < (W.alloc outObj0).heap.size := boxLtNew W
/-- What has been drawn at last. -/
def FX (w wr : World) (g : Nat) (aa : Option Addr) (len cap B T : Nat) : Prop := ∃ C F a n q b m p rs cs, RG w wr g aa len cap B T C F a n q b m p rs cs ∧ Bnd C F rs cs
theorem spoil_at (F : Int) (r : Nat) (hr : r < 3) (hF : 0 ≤ F ∧ F ≤ 1000000) : ∃ v : Int, (#[.int .i64 (-1), .int .i64 (F + 1), .int .i64 1000000] : Array Value)[r]? = some (.int .i64 v) ∧ Hid (-1 ≤ v ∧ v ≤ 1000001) := by
  rcases (show r = 0 ∨ r = 1 ∨ r = 2 by omega) with e | e | e <;> subst e
  · exact ⟨_, rfl, by constructor <;> omega⟩
  · exact ⟨_, rfl, by constructor <;> omega⟩
  · exact ⟨_, rfl, by constructor <;> omega⟩
theorem spoil_get {F y : Int} {r : Nat} (hr : r < 3) (hv : (#[.int .i64 (-1), .int .i64 (F + 1), .int .i64 1000000] : Array Value)[r]? = some (.int .i64 y)) : ([.int .i64 (-1), .int .i64 (F + 1), .int .i64 1000000] : List Value)[r]'(by simpa using hr) = .int .i64 y := by
  have h : ([.int .i64 (-1), .int .i64 (F + 1), .int .i64 1000000] : List Value)[r]? = some (.int .i64 y) := by simpa using hv
  rw [List.getElem?_eq_getElem (by simpa using hr)] at h
  exact Option.some.inj h
theorem spoil_cell {w W v : World} {g : Nat} {aa : Option Addr} {len cap B T : Nat} {C F x y : Int} {a : Option Addr} {n q : Nat} {b : Option Addr} {m p : Nat} {rs : List ByteArray} {cs : List (Int × Int)} {r : Nat} (hv : (#[.int .i64 (-1), .int .i64 x, .int .i64 1000000] : Array Value)[r]? = some (.int .i64 y)) (hg : (W.alloc (.cells #[.int .i64 (-1), .int .i64 x, .int .i64 1000000] 2)).grownBy v (some g)) (h : RG w W g aa len cap B T C F a n q b m p rs cs) : v.cell? ⟨W.heap.size, r, none⟩ = some (.int .i64 y) := by
  have := h.gl
  have := h.dg.on.size
  exact hg.cell (a := ⟨W.heap.size, r, none⟩) ((cell_of_heap (heap_alloc_new W _) r).trans hv) (by simp; omega)
/-- How a call on a drawn ring ends. -/
def GoodAns (u w' : World) (e : Ending) : Prop := ∃ (r : RO) (a : Option Addr) (q : Nat) (b : Option Addr) (p : Nat), Hid (GoodO r) ∧ e = .returned (ringOutV r.cap r.first a r.recs.length q b r.curs.length p r.k r.t r.d r.c) ∧ OwnRing w' u.heap.size a r.recs.length q b r.curs.length p (r.recs.map Value.string) (curCells r.curs) ∧ Below u.heap.size u w'
theorem good_of {u w' : World} {e : Ending} {r : RO} (h : Answers u w' e r) (hg : GoodO r) : GoodAns u w' e := by
  obtain ⟨a, q, b, p, h1, h2, h3⟩ := h
  exact ⟨r, a, q, b, p, hg, h1, h2, h3⟩
theorem put_good {C F : Int} {a : Option Addr} {n q : Nat} {b : Option Addr} {m p : Nat} {rs : List ByteArray} {cs : List (Int × Int)} (k t : Int) (d : ByteArray) (u : World) (hf : RFit u a n q b m p rs cs) (hs : ∀ s ∈ rs, s.size ≤ 100) (hd : d.size ≤ maxLen) :
    Calls Tryz.prog 17 #[ringV C F a n q b m p, recV k t d] u fun e w' => GoodAns u w' e := (spec_ringPut rs cs k t d u hf hd).mono (fun _ _ h => good_of h (good_put hs))
theorem follow_good {C F : Int} {a : Option Addr} {n q : Nat} {b : Option Addr} {m p : Nat} {rs : List ByteArray} {cs : List (Int × Int)} (x : Int) (u : World) (hf : RFit u a n q b m p rs cs) (hs : ∀ s ∈ rs, s.size ≤ 100) :
    Calls Tryz.prog 21 #[ringV C F a n q b m p, .int .i64 x] u fun e w' => GoodAns u w' e := (spec_follow rs cs x u hf).mono (fun _ _ h => good_of h (good_follow hs))
theorem leave_good {C F : Int} {a : Option Addr} {n q : Nat} {b : Option Addr} {m p : Nat} {rs : List ByteArray} {cs : List (Int × Int)} (x : Int) (u : World) (hf : RFit u a n q b m p rs cs) (hs : ∀ s ∈ rs, s.size ≤ 100) :
    Calls Tryz.prog 24 #[ringV C F a n q b m p, .int .i64 x] u fun e w' => GoodAns u w' e := (spec_leave rs cs x u hf).mono (fun _ _ h => good_of h (good_leave hs))
theorem move_good {C F : Int} {a : Option Addr} {n q : Nat} {b : Option Addr} {m p : Nat} {rs : List ByteArray} {cs : List (Int × Int)} (x y : Int) (u : World) (hf : RFit u a n q b m p rs cs) (hs : ∀ s ∈ rs, s.size ≤ 100) :
    Calls Tryz.prog 22 #[ringV C F a n q b m p, .int .i64 x, .int .i64 y] u fun e w' => GoodAns u w' e := (spec_move rs cs x y u hf).mono (fun _ _ h => good_of h (good_move hs))
set_option maxRecDepth 100000 in
set_option maxHeartbeats 8000000 in
theorem src_ring (g : Nat) (w : World) (aa : Option Addr) (len cap B : Nat) (hl : len ≤ 1048576) (hs : Src w g aa len cap) (hb : Bytes B w aa len) (hB : B ≤ g) (hg : g < w.heap.size) :
    Calls Tryz.prog 43 #[.pointer (some ⟨g, 0, none⟩)] w fun x w' => ∃ C F a n q b m p rs cs, x = .returned (ringV C F a n q b m p) ∧ OwnRing w' (w.heap.size + 1) a n q b m p (rs.map Value.string) (curCells cs) ∧ Bnd C F rs cs ∧ Src w' g aa len cap ∧ DG g w w' := by
  have hal : Below w.heap.size w ((w.alloc (ringObj 0 0 none 0 0 none 0 0)).alloc (.cells #[.int .i64 4, .int .i64 8, .int .i64 16] 2)) := ((Below.refl _ _).alloc (Nat.le_refl _) _).alloc (by simp) _
  have HS : Hid _ := src_below hs hal hg
  have HB : Hid _ := bytes_below hb hal (by omega)
  have HD : Hid _ := DG.of g hal
  have HR : Hid (((w.alloc (ringObj 0 0 none 0 0 none 0 0)).alloc (.cells #[.int .i64 4, .int .i64 8, .int .i64 16] 2)).heap[w.heap.size]? = some (ringObj 0 0 none 0 0 none 0 0)) := (Below.heap_alloc _ _ _ (by simp)).trans (heap_alloc_new _ _)
  have HV : Hid (((w.alloc (ringObj 0 0 none 0 0 none 0 0)).alloc (.cells #[.int .i64 4, .int .i64 8, .int .i64 16] 2)).heap[w.heap.size + 1]? = some (.cells #[.int .i64 4, .int .i64 8, .int .i64 16] 2 (0, 0))) := by
    have h := heap_alloc_new (w.alloc (ringObj 0 0 none 0 0 none 0 0)) (.cells #[.int .i64 4, .int .i64 8, .int .i64 16] 2)
    rwa [World.size_alloc] at h
  clear hs hb hal
  go_enter Tryz.func43, Tryz.ntmps43
  go_wp2_with fail
  refine (src_n g 3 _ aa len cap B (by omega) (by omega) hl HS.out HB.out hB).mono ?_
  rintro x w1 ⟨r1, rfl, hr1, hs1, hg1⟩
  have HS1 : Hid (Src w1 g aa len cap) := hs1
  have HB1 : Hid (Bytes B w1 aa len) := bytes_grown HB.out hg1 hB
  have HD1 : Hid (DG g w w1) := HD.out.grown hg1 (by simp; omega) (fun k hk => by simp at hk; omega)
  have HR1 : Hid (w1.heap[w.heap.size]? = some (ringObj 0 0 none 0 0 none 0 0)) := (bytes_lt_grown hg1 (by simp; omega) (by omega)).trans HR.out
  have HV1 : w1.heap[w.heap.size + 1]? = some (.cells #[.int .i64 4, .int .i64 8, .int .i64 16] 2 (0, 0)) := (bytes_lt_grown hg1 (by simp) (by omega)).trans HV.out
  obtain ⟨v, hv, hcap⟩ : ∃ v : Int, w1.cell? ⟨w.heap.size + 1, r1, none⟩ = some (.int .i64 v) ∧ Hid (capB v = true) := by
    rw [cell_of_heap HV1 r1]
    rcases (show r1 = 0 ∨ r1 = 1 ∨ r1 = 2 by omega) with e | e | e <;> subst e
    · exact ⟨4, rfl, rfl⟩
    · exact ⟨8, rfl, rfl⟩
    · exact ⟨16, rfl, rfl⟩
  have HN : Hid (∀ w, Calls Tryz.prog 26 #[.int .i64 v] w fun e w' => e = .returned (ringOutV v 0 none 0 0 none 0 0 0 0 ⟨#[]⟩ 0) ∧ Below w.heap.size w w') := fun w => by
    have h := spec_ringNew v w
    rwa [show newOut v = ringOutV v 0 none 0 0 none 0 0 0 0 ⟨#[]⟩ 0 by simp [newOut, newCap, newCode, hcap.out]] at h
  have hfr := field_ring v 0 none 0 0 none 0 0 0 0 ⟨#[]⟩ 0
  clear hs1 hg1 HS HB HD HR HV HV1
  go_wp2_with fail
  refine (HN.out _).mono ?_
  rintro x w2 ⟨rfl, hb2⟩
  have hz1 := HD1.out.on.size
  have HG2 : Hid (RG w (w2.alloc (ringObj v 0 none 0 0 none 0 0)) g aa len cap B w2.heap.size v 0 none 0 0 none 0 0 [] []) := rg_first v (blk HR1.out hb2) (src_below HS1.out hb2 (by omega)) (bytes_below HB1.out hb2 (by omega)) (HD1.out.trans (hb2.mono hz1)) hg hB
  have HR2 : Hid (ringRightB v 0 [] [] = true) := by
    have h := new_stays (n := v) (by simp [newCode, hcap.out])
    rwa [show newCap v = v by simp [newCap, hcap.out]] at h
  clear hb2 HS1 HB1 HD1 HR1 HN hcap hz1
  go_wp2_with fail
  refine (src_n g 12 _ aa len cap B (by omega) (by omega) hl HG2.out.src HG2.out.byt hB).mono ?_
  rintro x w3 ⟨r3, rfl, hr3, hs3, hg3⟩
  obtain ⟨T, hT⟩ : ∃ T, w2.heap.size = T := ⟨_, rfl⟩
  have HX3 : Hid (RGX w w3 g aa len cap B T) := ⟨_, _, _, _, _, _, _, _, _, _, by rw [← hT]; exact HG2.out.draw hs3 hg3, HR2.out, fun s h => by simp at h⟩
  rw [hT]
  clear hs3 hg3 HG2 HR2 hT hv hfr
  go_wp2_with fail
  go_loopw [4] (fun kv wr => ∃ kk : Nat, kv = .int .i64 kk ∧ kk ≤ 12 ∧ Hid (RGX w wr g aa len cap B T)) (fun kv _ => (intOf kv).toNat)
  case atStart => exact ⟨r3, rfl, by omega, HX3.out⟩
  case round =>
    obtain ⟨kk, rfl, hkk, hX⟩ := hrel
    clear HX3
    by_cases h0 : 0 < kk
    · obtain ⟨C, F, a, n, q, b, m, p, rs, cs, hD, hR, hZ⟩ := hX.out
      have HR : Hid (ringRightB C F rs cs = true) := hR
      have HZ : Hid (∀ s ∈ rs, s.size ≤ 100) := hZ
      obtain ⟨hF, hC, hrl, hcl⟩ := right_bnd hR
      have hlen := hD.lens
      have HD : Hid (RG w wr.drew g aa len cap B T C F a n q b m p rs cs) := hD.drew
      obtain ⟨L0, hL0⟩ : ∃ L0, wr.heap.size = L0 := ⟨_, rfl⟩
      have HL1 : Hid (∀ j, (Value.slice a n q).ownBlock = some j → j < L0) := by rw [← hL0]; exact fun j e => (hD.own.1.lt j e).2
      have HL2 : Hid (∀ j, (Value.slice b m p).ownBlock = some j → j < L0) := by rw [← hL0]; exact fun j e => (hD.own.2.lt j e).2
      have HTL : Hid (T < L0) := by rw [← hL0]; exact blk_lt hD.box
      have HLE : Hid (L0 ≤ wr.drew.heap.size) := by rw [← hL0]; exact Nat.le_refl _
      have HGL : Hid (g < L0) := by rw [← hL0]; have := hD.dg.on.size; show g < wr.heap.size; omega
      have hc0 := fun o => cell_of_block0 hD.box o
      have htl : T < wr.heap.size := blk_lt hD.box
      clear hD hX hR hZ hL0
      go_upto_region 5 with fail
      go_cut [5] from 15 to 57 (fun s5 wc => ∃ (Y : Nat) (a5 : Option Addr) (q5 : Nat) (b5 : Option Addr) (p5 : Nat) (r : RO), s5 = .pointer (some ⟨Y, 0, none⟩) ∧ Hid (RY w wc g aa len cap B T C F a n q b m p rs cs Y a5 q5 b5 p5 r))
      case first =>
        first | (go_region_with (first
          | (go_at_call 44; refine (src_recG g _ aa len cap B hl (by first | exact HD.out.src | exact (HD.out.under (below_new _ _)).src) (by first | exact HD.out.byt | exact (HD.out.under (below_new _ _)).byt) hB (by first | exact Nat.lt_of_lt_of_le HGL.out HLE.out | exact Nat.lt_of_lt_of_le HGL.out (Nat.le_trans HLE.out (below_new _ _).size))).mono ?_; rintro x w5 ⟨k, t, d, rfl, hd, hs5, hg5⟩; (first | (have HBX : Hid (BoxAt L0 w5 wr.heap.size) := boxNewG (W := wr.drew) HLE.out hg5.on HGL.out) | skip); have HLE : Hid (L0 ≤ w5.heap.size) := Nat.le_trans (by first | exact HLE.out | exact Nat.le_trans HLE.out (below_new _ _).size) hg5.on.size; have HD : Hid (RG w w5 g aa len cap B T C F a n q b m p rs cs) := RG.draw (by first | exact HD.out | exact HD.out.under (below_new _ _)) hs5 hg5.on; have hd17 : d.size ≤ maxLen := (by have := hd.2.2; unfold maxLen; omega); have hc0 := fun o => cell_of_block0 HD.out.box o; have ht5 : T < w5.heap.size := blk_lt HD.out.box; (try (have hcO := fun o => cell_of_block0 HBX.out.box o)); (try (have hfO := fun o => unfrozen_of_block0 HBX.out.box o)); clear hs5 hg5 hd)
          | (go_at_call 17; refine (put_good (rs := rs) (cs := cs) k t d _ (RG.fit (by first | exact HD.out | exact HD.out.under (below_new _ _)) HR.out HZ.out) HZ.out hd17).mono ?_; rintro x w6 ⟨r, a5, q5, b5, p5, HGO, rfl, ho6, hb6⟩; (first | (have HBL := dhid (blk_lt HBX.out.box); have HBX : Hid (BoxAt L0 w6 _) := boxKeep HBX.out hb6) | (have HBX : Hid (BoxAt L0 w6 _) := boxNew HLE.out hb6; have HBL := dhid (dboxLt hb6)) | skip); have HSB : Hid (T + 1 ≤ _) := (by first | exact blk_lt HD.out.box | exact Nat.le_trans (blk_lt HD.out.box) (below_new _ _).size); have HD6 : Hid (RG w w6 g aa len cap B T C F a n q b m p rs cs) := RG.under (by first | exact HD.out | exact HD.out.under (below_new _ _)) hb6; have HO6 : Hid (OwnRing w6 _ a5 _ q5 b5 _ p5 _ _) := ho6; (try (have hcO := fun o => cell_of_block0 HBX.out.box o)); (try (have hfO := fun o => unfrozen_of_block0 HBX.out.box o)); clear hb6 ho6))) | fail
        all_goals (go_wp2_with fail; go_meet; first | (have hx := HBX.out.box; have hy := ry_b (r := r) HD6.out hx (Nat.lt_of_lt_of_le HTL.out HBX.out.lo) (fun j e => Nat.lt_of_lt_of_le (HL1.out j e) HBX.out.lo) (fun j e => Nat.lt_of_lt_of_le (HL2.out j e) HBX.out.lo) HO6.out HBL.out HGO.out; exact ⟨_, a5, q5, b5, p5, r, rfl, hy⟩) | (have hy := ry_a (r := r) HD6.out HO6.out HSB.out HGO.out; exact ⟨_, a5, q5, b5, p5, r, rfl, hy⟩))
      case rest =>
      obtain ⟨Y, a5, q5, b5, p5, r, rfl, HY⟩ := hcut
      clear HD HL1 HL2 HTL HLE HGL hc0 htl
      go_wp2_with fail
      refine (src_n g 5 _ aa len cap B (by omega) (by omega) hl HY.out.rg.src HY.out.rg.byt hB).mono ?_
      rintro x w7 ⟨r7, rfl, hr7, hs7, hg7⟩
      have HY7 : Hid (RY w w7 g aa len cap B T C F a n q b m p rs cs Y a5 q5 b5 p5 r) := HY.out.draw hs7 hg7
      clear hs7 hg7 HY
      have hcT := fun o => cell_of_block0 HY7.out.rg.box o
      go_upto_block 2 with fail
      go_cut [] from 15 to 57 (fun wc => ∃ (a2 : Option Addr) (q2 : Nat) (b2 : Option Addr) (p2 : Nat) (r2 : RO), Hid (RY w wc g aa len cap B T C F a n q b m p rs cs Y a2 q2 b2 p2 r2))
      case first =>
        by_cases hA : r7 = 0
        · have hAb : ((r7 : Int) == 0) = true := by rw [beq_iff_eq]; omega
          have HYd : Hid (RY w w7.drew g aa len cap B T C F a n q b m p rs cs Y a5 q5 b5 p5 r) := HY7.out.drew
          clear hA HY7
          go_wp2
          first | (go_region_with (first
            | (go_at_call 52; refine (src_n g 3 _ aa len cap B (by omega) (by omega) hl HYd.out.rg.src HYd.out.rg.byt hB).mono ?_; rintro x w8 ⟨r8, rfl, hr8, hs8, hg8⟩; have HYd : Hid (RY w w8 g aa len cap B T C F a n q b m p rs cs Y a5 q5 b5 p5 r) := HYd.out.draw hs8 hg8; have hWr8 : IntKind.i64.wrap (1 + (r8 : Int)) = 1 + (r8 : Int) := i64_wrap_in _ (by omega) (by omega); have hcT := fun o => cell_of_block0 HYd.out.rg.box o; clear hs8 hg8)
            | (go_at_call 21; refine (follow_good (rs := rs) (cs := cs) (1 + (r8 : Int)) _ (HYd.out.rg.fit HR.out HZ.out) HZ.out).mono ?_; rintro x w9 ⟨r2, a2, q2, b2, p2, HGO, rfl, ho9, hb9⟩; have HSB := dhid (blk_lt HYd.out.box); have HO9 : Hid (OwnRing w9 _ a2 _ q2 b2 _ p2 _ _) := ho9; have HY9 : Hid (RY w w9 g aa len cap B T C F a n q b m p rs cs Y a5 q5 b5 p5 r) := HYd.out.under hb9; have hcY := fun o => cell_of_block0 HY9.out.box o; have hfY := fun o => unfrozen_of_block0 HY9.out.box o; clear ho9 hb9))) | fail
          all_goals (go_wp2_with fail; go_meet; have hy := HY9.out.over (r2 := r2) HO9.out HSB.out HGO.out; exact ⟨a2, q2, b2, p2, r2, hy⟩)
        have hAb : ((r7 : Int) == 0) = false := by rw [beq_eq_false_iff_ne]; omega
        clear hA
        by_cases hA : r7 = 1
        · have hBb : ((r7 : Int) == 1) = true := by rw [beq_iff_eq]; omega
          have HYd : Hid (RY w w7.drew g aa len cap B T C F a n q b m p rs cs Y a5 q5 b5 p5 r) := HY7.out.drew
          clear hA HY7
          go_wp2
          first | (go_region_with (first
            | (go_at_call 52; have hg8 := hr8; clear hg8; refine (src_n g 5 _ aa len cap B (by omega) (by omega) hl HYd.out.rg.src HYd.out.rg.byt hB).mono ?_; rintro x w8 ⟨r9, rfl, hr9, hs8, hg8⟩; have HYd : Hid (RY w w8 g aa len cap B T C F a n q b m p rs cs Y a5 q5 b5 p5 r) := HYd.out.draw hs8 hg8; have hWr9 : IntKind.i64.wrap (F + (r9 : Int)) = F + (r9 : Int) := i64_wrap_in _ (by omega) (by omega); have hcT := fun o => cell_of_block0 HYd.out.rg.box o; clear hs8 hg8)
            | (go_at_call 52; refine (src_n g 3 _ aa len cap B (by omega) (by omega) hl HYd.out.rg.src HYd.out.rg.byt hB).mono ?_; rintro x w8 ⟨r8, rfl, hr8, hs8, hg8⟩; have HYd : Hid (RY w w8 g aa len cap B T C F a n q b m p rs cs Y a5 q5 b5 p5 r) := HYd.out.draw hs8 hg8; have hWr8 : IntKind.i64.wrap (1 + (r8 : Int)) = 1 + (r8 : Int) := i64_wrap_in _ (by omega) (by omega); have hcT := fun o => cell_of_block0 HYd.out.rg.box o; clear hs8 hg8)
            | (go_at_call 22; refine (move_good (rs := rs) (cs := cs) (1 + (r8 : Int)) (F + (r9 : Int)) _ (HYd.out.rg.fit HR.out HZ.out) HZ.out).mono ?_; rintro x w9 ⟨r2, a2, q2, b2, p2, HGO, rfl, ho9, hb9⟩; have HSB := dhid (blk_lt HYd.out.box); have HO9 : Hid (OwnRing w9 _ a2 _ q2 b2 _ p2 _ _) := ho9; have HY9 : Hid (RY w w9 g aa len cap B T C F a n q b m p rs cs Y a5 q5 b5 p5 r) := HYd.out.under hb9; have hcY := fun o => cell_of_block0 HY9.out.box o; have hfY := fun o => unfrozen_of_block0 HY9.out.box o; clear ho9 hb9))) | fail
          all_goals (go_wp2_with fail; go_meet; have hy := HY9.out.over (r2 := r2) HO9.out HSB.out HGO.out; exact ⟨a2, q2, b2, p2, r2, hy⟩)
        have hBb : ((r7 : Int) == 1) = false := by rw [beq_eq_false_iff_ne]; omega
        clear hA
        by_cases hA : r7 = 2
        · have hCb : ((r7 : Int) == 2) = true := by rw [beq_iff_eq]; omega
          clear hA
          go_wp2_with fail
          refine (src_one g 3 _ aa len cap B (by omega) (by omega) hl HY7.out.rg.src HY7.out.rg.byt hB).mono ?_
          rintro x w10 ⟨r10, rfl, hr10, hs10, hg10⟩
          have HY10 : Hid (RY w w10 g aa len cap B T C F a n q b m p rs cs Y a5 q5 b5 p5 r) := HY7.out.draw hs10 hg10
          clear hs10 hg10 HY7 hcT
          have hcT := fun o => cell_of_block0 HY10.out.rg.box o
          by_cases hE : r10 = 0
          · have hEb : ((r10 : Int) == 0) = true := by rw [beq_iff_eq]; omega
            have HYd : Hid (RY w w10.drew g aa len cap B T C F a n q b m p rs cs Y a5 q5 b5 p5 r) := HY10.out.drew
            clear hE HY10
            go_wp2
            first | (go_region_with (first
              | (go_at_call 52; refine (src_n g 3 _ aa len cap B (by omega) (by omega) hl HYd.out.rg.src HYd.out.rg.byt hB).mono ?_; rintro x w8 ⟨r8, rfl, hr8, hs8, hg8⟩; have HYd : Hid (RY w w8 g aa len cap B T C F a n q b m p rs cs Y a5 q5 b5 p5 r) := HYd.out.draw hs8 hg8; have hWr8 : IntKind.i64.wrap (1 + (r8 : Int)) = 1 + (r8 : Int) := i64_wrap_in _ (by omega) (by omega); have hcT := fun o => cell_of_block0 HYd.out.rg.box o; clear hs8 hg8)
              | (go_at_call 24; refine (leave_good (rs := rs) (cs := cs) (1 + (r8 : Int)) _ (HYd.out.rg.fit HR.out HZ.out) HZ.out).mono ?_; rintro x w9 ⟨r2, a2, q2, b2, p2, HGO, rfl, ho9, hb9⟩; have HSB := dhid (blk_lt HYd.out.box); have HO9 : Hid (OwnRing w9 _ a2 _ q2 b2 _ p2 _ _) := ho9; have HY9 : Hid (RY w w9 g aa len cap B T C F a n q b m p rs cs Y a5 q5 b5 p5 r) := HYd.out.under hb9; have hcY := fun o => cell_of_block0 HY9.out.box o; have hfY := fun o => unfrozen_of_block0 HY9.out.box o; clear ho9 hb9))) | fail
            all_goals (go_wp2_with fail; go_meet; have hy := HY9.out.over (r2 := r2) HO9.out HSB.out HGO.out; exact ⟨a2, q2, b2, p2, r2, hy⟩)
          have hEb : ((r10 : Int) == 0) = false := by rw [beq_eq_false_iff_ne]; omega
          clear hE hcT
          go_wp2_with fail
          go_meet
          exact ⟨a5, q5, b5, p5, r, HY10.out⟩
        have hCb : ((r7 : Int) == 2) = false := by rw [beq_eq_false_iff_ne]; omega
        clear hA hcT
        go_wp2_with fail
        go_meet
        exact ⟨a5, q5, b5, p5, r, HY7.out⟩
      case rest =>
      obtain ⟨a2, q2, b2, p2, r2, HYc⟩ := hcut
      clear HY7 hcT
      have hcY := fun o => cell_of_block0 HYc.out.box o
      have hcT := fun o => cell_of_block0 HYc.out.rg.box o
      have hfT := fun o => unfrozen_of_block0 HYc.out.rg.box o
      by_cases hc0 : r2.c = 0
      · have hcb : (r2.c == 0) = true := by rw [beq_iff_eq]; exact hc0
        have HX : Hid (RGX w (set4 wc T (.int .i64 r2.cap) (.int .i64 r2.first) (.slice a2 r2.recs.length q2) (.slice b2 r2.curs.length p2)) g aa len cap B T) := HYc.out.take hc0
        clear hc0
        go_wp2
        exact ⟨⟨kk - 1, by go_num, by omega, HX.out⟩, by simp [intOf]; omega⟩
      · have hcb : (r2.c == 0) = false := by rw [beq_eq_false_iff_ne]; exact hc0
        clear hc0
        go_wp2
        exact ⟨⟨kk - 1, by go_num, by omega, ⟨C, F, a, n, q, b, m, p, rs, cs, HYc.out.rg, HR.out, HZ.out⟩⟩, by simp [intOf]; omega⟩
    · obtain rfl : kk = 0 := by omega
      obtain ⟨C, F, a, n, q, b, m, p, rs, cs, hD, hR, hZ⟩ := hX.out
      have HZ : Hid (∀ s ∈ rs, s.size ≤ 100) := hZ
      obtain ⟨hF, hC, hrl, hcl⟩ := right_bnd hR
      have hlen := hD.lens
      have HD : Hid (RG w wr g aa len cap B T C F a n q b m p rs cs) := hD
      clear hX hR hZ hD
      go_wp2_with fail
      refine (src_one g 15 _ aa len cap B (by omega) (by omega) hl HD.out.src HD.out.byt hB).mono ?_
      rintro x w11 ⟨r11, rfl, hr11, hs11, hg11⟩
      have HD11 : Hid (RG w w11 g aa len cap B T C F a n q b m p rs cs) := HD.out.draw hs11 hg11
      have HBN : Hid (Bnd C F rs cs) := ⟨by omega, by omega, by omega, by omega, HZ.out⟩
      clear hs11 hg11 HD
      go_upto_if 59 with fail
      go_cut [] (fun wc => Hid (FX w wc g aa len cap B T))
      case first =>
        by_cases h0' : r11 = 0
        case neg =>
          have h0b : ((r11 : Int) == 0) = false := by rw [beq_eq_false_iff_ne]; omega
          clear h0'
          go_wp2_with fail
          go_meet
          exact ⟨C, F, a, n, q, b, m, p, rs, cs, HD11.out, HBN.out⟩
        have h0b : ((r11 : Int) == 0) = true := by rw [beq_iff_eq]; omega
        clear h0'
        go_wp2_with fail
        refine (src_n g 4 _ aa len cap B (by omega) (by omega) hl HD11.out.src HD11.out.byt hB).mono ?_
        rintro x w12 ⟨r12, rfl, hr12, hs12, hg12⟩
        have HD12 : Hid (RG w w12 g aa len cap B T C F a n q b m p rs cs) := HD11.out.draw hs12 hg12
        clear hs12 hg12 HD11
        have hcT := fun o => cell_of_block0 HD12.out.box o
        have hfT := fun o => unfrozen_of_block0 HD12.out.box o
        by_cases hA : r12 = 0
        · have hAb : ((r12 : Int) == 0) = true := by rw [beq_iff_eq]; omega
          clear hA hcT hfT
          go_wp2_with fail
          refine (src_n g 20 _ aa len cap B (by omega) (by omega) hl HD12.out.src HD12.out.byt hB).mono ?_
          rintro x w13 ⟨r13, rfl, hr13, hs13, hg13⟩
          have HD13 : Hid (RG w w13 g aa len cap B T C F a n q b m p rs cs) := HD12.out.draw hs13 hg13
          have hcT := fun o => cell_of_block0 HD13.out.box o
          have hfT := fun o => unfrozen_of_block0 HD13.out.box o
          clear hs13 hg13 HD12
          go_wp2_with fail
          go_meet
          exact ⟨_, F, a, n, q, b, m, p, rs, cs, HD13.out.setC _, ⟨by omega, HBN.out.f, HBN.out.r, HBN.out.k, HBN.out.s⟩⟩
        have hAb : ((r12 : Int) == 0) = false := by rw [beq_eq_false_iff_ne]; omega
        clear hA
        by_cases hA : r12 = 1
        · have hBb : ((r12 : Int) == 1) = true := by rw [beq_iff_eq]; omega
          have hWF : IntKind.i64.wrap (F + 1) = F + 1 := i64_wrap_in _ (by omega) (by omega)
          have HDd : Hid (RG w w12.drew g aa len cap B T C F a n q b m p rs cs) := HD12.out.drew
          have htl : T < w12.heap.size := blk_lt HD12.out.box
          clear hA
          go_wp2
          first | (go_region_with (first
            | (go_at_call 52; refine (src_n g 3 _ aa len cap B (by omega) (by omega) hl (by first | exact HDd.out.src | exact (HDd.out.under (below_new _ _)).src) (by first | exact HDd.out.byt | exact (HDd.out.under (below_new _ _)).byt) hB).mono ?_; rintro x w13 ⟨r13, rfl, hr13, hs13, hg13⟩; have HD13 : Hid (RG w w13 g aa len cap B T C F a n q b m p rs cs) := RG.draw (by first | exact HDd.out | exact HDd.out.under (below_new _ _)) hs13 hg13; obtain ⟨v, hva, hvb⟩ := spoil_at F r13 hr13 hF; have hvg := spoil_get hr13 hva; (try (have hcv : w13.cell? ⟨w12.heap.size, r13, none⟩ = some (.int .i64 v) := spoil_cell (W := w12.drew) hva hg13 HDd.out)); have hcT := fun o => cell_of_block0 HD13.out.box o; have hfT := fun o => unfrozen_of_block0 HD13.out.box o; have ht13 : T < w13.heap.size := blk_lt HD13.out.box; clear hs13 hg13))) | fail
          all_goals (go_wp2_with fail; go_meet; first | exact ⟨C, v, a, n, q, b, m, p, rs, cs, HD13.out.setF v, ⟨HBN.out.c, hvb.out, HBN.out.r, HBN.out.k, HBN.out.s⟩⟩ | exact ⟨C, v, a, n, q, b, m, p, rs, cs, (HD13.out.setF v).under (below_new _ _), ⟨HBN.out.c, hvb.out, HBN.out.r, HBN.out.k, HBN.out.s⟩⟩)
        have hBb : ((r12 : Int) == 1) = false := by rw [beq_eq_false_iff_ne]; omega
        clear hA
        by_cases hA : r12 = 2
        · have hCb : ((r12 : Int) == 2) = true := by rw [beq_iff_eq]; omega
          obtain ⟨i0, hi0, hz0, hz1, hz2⟩ := info_parts info_str
          have htl : T < w12.heap.size := blk_lt HD12.out.box
          clear hA
          go_wp2_with (at_builtin; refine wpList_append_own_any (by rfl) _ _ _ (by rfl) (T + 1) 9 i0 _ 1 16 Tryz.underlying23 hi0 hz0 hz1 hz2 (by rfl) (by omega) (.slice a n q) n _ (by rfl) (HD12.out.own.1.alloc _) (some ⟨w12.heap.size, 0, none⟩) 1 1 [.string ⟨#[120]⟩] (by rfl) (by rfl) (fun e' => by cases e') (fun ad e' => by cases e'; exact cell_one_new _ _ _) (by simp [Value.oneCell']) (by unfold maxLen; omega) (by omega) (by simp; omega) ?_; intro v6 w13 ho6 hg6; obtain ⟨a6, c6, rfl⟩ := own_strV ho6; have hst := HD12.out.app1 ho6 hg6; have hc6 := hst.1; have hf6 := hst.2.1; have HST : Hid _ := hst.2.2; clear ho6 hg6 hst)
          go_meet
          refine ⟨C, F, a6, n + 1, c6, b, m, p, rs ++ [⟨#[120]⟩], cs, HST.out, ⟨HBN.out.c, HBN.out.f, by simp; omega, HBN.out.k, fun s hs => ?_⟩⟩
          rcases List.mem_append.1 hs with hs | hs
          · exact HZ.out s hs
          · rw [List.mem_singleton.1 hs]; decide
        have hCb : ((r12 : Int) == 2) = false := by rw [beq_eq_false_iff_ne]; omega
        obtain ⟨j0, hj0, hy0, hy1, hy2⟩ := info_parts info_cur
        have HDd : Hid (RG w w12.drew g aa len cap B T C F a n q b m p rs cs) := HD12.out.drew
        clear hA
        go_wp2
        go_region_law (first
          | (go_simp; go_at_call 52; refine (src_n g 11 _ aa len cap B (by omega) (by omega) hl HDd.out.src HDd.out.byt hB).mono ?_; rintro x w13 ⟨r13, rfl, hr13, hs13, hg13⟩; have HD13 : Hid (RG w w13 g aa len cap B T C F a n q b m p rs cs) := HDd.out.draw hs13 hg13; have hcT := fun o => cell_of_block0 HD13.out.box o; have ht13 : T < w13.heap.size := blk_lt HD13.out.box; clear hs13 hg13)
          | (refine step_append_own_any (by rfl) _ _ _ (by rfl) (T + 1) 47 j0 _ 2 16 Tryz.underlying24 hj0 hy0 hy1 hy2 (by rfl) (by omega) (.slice b m p) m _ (by rfl) (HD13.out.own.2.alloc _) (some ⟨w13.heap.size, 0, none⟩) 1 1 [.int .i64 (r13 : Int), .int .i64 F] (by rfl) (by rfl) (fun e' => by cases e') (fun ad e' => by cases e'; exact World.news_of_block (cs := #[.int .i64 (r13 : Int), .int .i64 F]) (t := 47) (fr := (0, 0)) (heap_alloc_new _ _)) (by simp [Value.oneCell']) (by unfold maxLen; omega) (by omega) (by simp; omega) ?_; intro v6 w14 ho6 hg6; obtain ⟨b6, c6, rfl⟩ := own_curV ho6; have hst := HD13.out.app2 (x := ((r13 : Int), F)) ho6 hg6; have hc6 := hst.1; have hf6 := hst.2.1; have HST : Hid _ := hst.2.2; clear ho6 hg6 hst))
        all_goals (go_wp2_with fail; go_meet; exact ⟨C, F, a, n, q, b6, m + 1, c6, rs, cs ++ [((r13 : Int), F)], HST.out, ⟨HBN.out.c, HBN.out.f, HBN.out.r, by simp; omega, HBN.out.s⟩⟩)
      case rest =>
      clear HD11 HBN HZ hlen hrl hcl hF hC
      obtain ⟨C, F, a, n, q, b, m, p, rs, cs, hD, hN⟩ := hcut.out
      have HD : Hid (RG w wc g aa len cap B T C F a n q b m p rs cs) := hD
      have HN : Hid (Bnd C F rs cs) := hN
      have hcT := fun o => cell_of_block0 hD.box o
      have hcR := fun o => cell_of_block0 hD.res o
      have hfR := fun o => unfrozen_of_block0 hD.res o
      clear hD hN hcut
      go_wp2
      refine bodyPost_ret (v := ringV C F a n q b m p) (by simp [results, Tryz.results43, go_sem, hcR]) rfl ⟨C, F, a, n, q, b, m, p, rs, cs, rfl, ?_⟩
      have hlt := HD.out.lt
      have hgl := HD.out.gl
      have hst : Below w.heap.size wc (set4 wc w.heap.size (.int .i64 C) (.int .i64 F) (.slice a n q) (.slice b m p)) := below_set4 (Below.refl _ _) _ (Nat.le_refl _) _ _ _ _
      exact ⟨⟨(own_set4 HD.out.own.1 _ (by omega) _ _ _ _).mono (by omega), (own_set4 HD.out.own.2 _ (by omega) _ _ _ _).mono (by omega)⟩, HN.out, src_below HD.out.src hst hgl, HD.out.dg.trans hst⟩
end Go.Proofs.YtbbaghlmialaoaaGreatDoor
