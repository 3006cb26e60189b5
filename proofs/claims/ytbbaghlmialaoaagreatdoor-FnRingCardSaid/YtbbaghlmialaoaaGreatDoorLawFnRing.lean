/- The law FnRing. -/
import Derived.Test.YtbbaghlmialaoaaGreatDoorLawFnRing0
import Derived.Test.YtbbaghlmialaoaaGreatDoorRingStay2
import Derived.Test.YtbbaghlmialaoaaGreatDoorSpecPut
import Derived.Test.YtbbaghlmialaoaaGreatDoorRingAtI
import Derived.Deep.RegionHeld3
namespace Go.Proofs.YtbbaghlmialaoaaGreatDoor
open Go.RowKit
attribute [local go_sem ↓] Go.wp_at_zero Go.wp_at_succ
set_option linter.unusedSimpArgs false
theorem rbytes_more {B C : Nat} {w : World} {a : Option Addr} {len : Nat} (h : Bytes B w a len) (hB : B ≤ C) : Bytes C w a len := fun i hi => by
  obtain ⟨b, off, e', hb, rest⟩ := h i hi
  exact ⟨b, off, e', by omega, rest⟩
/-- What was handed in can still be read. -/
structure BW (w u : World) (a0 : Option Addr) (len0 : Nat) (a1 : Option Addr) (len1 : Nat) : Prop where
  y0 : Bytes u.heap.size u a0 len0
  y1 : Bytes u.heap.size u a1 len1
  bel : Below w.heap.size w u
theorem BW.under {w u v : World} {a0 : Option Addr} {len0 : Nat} {a1 : Option Addr} {len1 : Nat} (h : BW w u a0 len0 a1 len1) (hb : Below u.heap.size u v) : BW w v a0 len0 a1 len1 :=
  ⟨rbytes_more (bytes_below h.y0 hb (Nat.le_refl _)) hb.size, rbytes_more (bytes_below h.y1 hb (Nat.le_refl _)) hb.size, below_tr h.bel hb⟩
/-- A ring's box, and its lists. -/
structure BR (u : World) (T : Nat) (C F : Int) (a : Option Addr) (n q : Nat) (b : Option Addr) (m p : Nat) (rs : List ByteArray) (cs : List (Int × Int)) : Prop where
  box : u.heap[T]? = some (ringObj C F a n q b m p)
  fit : RFit u a n q b m p rs cs
theorem BR.under {u v : World} {T : Nat} {C F : Int} {a : Option Addr} {n q : Nat} {b : Option Addr} {m p : Nat} {rs : List ByteArray} {cs : List (Int × Int)} (h : BR u T C F a n q b m p rs cs) (hb : Below u.heap.size u v) : BR v T C F a n q b m p rs cs := ⟨blk h.box hb, h.fit.below hb⟩
theorem rw_fit {w u : World} {C F : Int} {a : Option Addr} {n q : Nat} {b : Option Addr} {m p : Nat} {rs : List ByteArray} {cs : List (Int × Int)} (h : RW w u C F a n q b m p rs cs) : RFit u a n q b m p rs cs := by
  have h1 := h.1.1.1
  have h2 := h.1.2.1
  rw [curCells_length] at h2
  simp at h1
  have hr := h.2.1.r
  have hk := h.2.1.k
  exact own_fit h.1 (fun s hs => by have := h.2.1.s s hs; omega) (by omega) (by omega)
theorem br_new {w u : World} {C F : Int} {a : Option Addr} {n q : Nat} {b : Option Addr} {m p : Nat} {rs : List ByteArray} {cs : List (Int × Int)} (h : RW w u C F a n q b m p rs cs) : BR (u.alloc (ringObj C F a n q b m p)) u.heap.size C F a n q b m p rs cs := ⟨heap_alloc_new _ _, (rw_fit h).below (below_new _ _)⟩
/-- An answer's box, and its lists. -/
structure BA (u : World) (T : Nat) (r : RO) (a : Option Addr) (q : Nat) (b : Option Addr) (p : Nat) : Prop where
  box : u.heap[T]? = some (outObj r.cap r.first a r.recs.length q b r.curs.length p r.k r.t r.d r.c)
  fit : RFit u a r.recs.length q b r.curs.length p r.recs r.curs
theorem BA.strs {u : World} {T : Nat} {r : RO} {a : Option Addr} {q : Nat} {b : Option Addr} {p : Nat} (h : BA u T r a q b p) : Strs u a r.recs.length r.recs := h.fit.str.strs
theorem BA.curs {u : World} {T : Nat} {r : RO} {a : Option Addr} {q : Nat} {b : Option Addr} {p : Nat} (h : BA u T r a q b p) : Curs u b r.curs.length r.curs := h.fit.cur.curs
theorem BA.under {u v : World} {T : Nat} {r : RO} {a : Option Addr} {q : Nat} {b : Option Addr} {p : Nat} (h : BA u T r a q b p) (hb : Below u.heap.size u v) : BA v T r a q b p := ⟨blk h.box hb, h.fit.below hb⟩
theorem ba_new {u : World} {base : Nat} {r : RO} {a : Option Addr} {q : Nat} {b : Option Addr} {p : Nat} (h : OwnRing u base a r.recs.length q b r.curs.length p (r.recs.map Value.string) (curCells r.curs)) (hz : r.recs.length ≤ 1000 ∧ r.curs.length ≤ 1000 ∧ ∀ s ∈ r.recs, s.size ≤ 100) : BA (u.alloc (outObj r.cap r.first a r.recs.length q b r.curs.length p r.k r.t r.d r.c)) u.heap.size r a q b p :=
  ⟨heap_alloc_new _ _, (own_fit h (fun s hs => by have := hz.2.2 s hs; omega) (by omega) (by omega)).below (below_new _ _)⟩
theorem field_orec (C F : Int) (a : Option Addr) (n q : Nat) (b : Option Addr) (m p : Nat) (k t : Int) (d : ByteArray) (c : Int) (w : World) : (Instr.field 32 (ringOutV C F a n q b m p k t d c) 1).run Tryz.prog w = .ok (recV k t d) w := by kernel_rfl
theorem end_bnd (cap first : Int) (recs : List ByteArray) (curs : List (Int × Int)) : 0 ≤ endOf cap first recs curs ∧ endOf cap first recs curs ≤ 1000000 := by
  unfold endOf
  split
  · rename_i h
    obtain ⟨h1, h2, h3, h4, _⟩ := (sright_iff ..).1 h
    omega
  · omega
theorem room_bnd (cap first : Int) (recs : List ByteArray) (curs : List (Int × Int)) : 0 ≤ roomOf cap first recs curs ∧ roomOf cap first recs curs ≤ 1000000 := by
  unfold roomOf
  split
  · rename_i h
    obtain ⟨h1, h2, h3, h4, _⟩ := (sright_iff ..).1 h
    have := (right_bnd h).2.1
    omega
  · omega
/-- A record's box. -/
structure BK (u : World) (T : Nat) (k t : Int) (d : ByteArray) : Prop where
  box : u.heap[T]? = some (recObj k t d)
theorem BK.under {u v : World} {T : Nat} {k t : Int} {d : ByteArray} (h : BK u T k t d) (hb : Below u.heap.size u v) : BK v T k t d := ⟨blk h.box hb⟩
/-- What an answer's equal is held against. -/
structure EQ (u : World) (r : RO) (a : Option Addr) (b : Option Addr) : Prop where
  strs : Strs u a r.recs.length r.recs
  curs : Curs u b r.curs.length r.curs
  good : r.c = 0 → ringRightB r.cap r.first r.recs r.curs = true
  sz : r.recs.length ≤ 1000 ∧ r.curs.length ≤ 1000 ∧ ∀ s ∈ r.recs, s.size ≤ 100
theorem EQ.under {u v : World} {r : RO} {a b : Option Addr} (h : EQ u r a b) (hb : Below u.heap.size u v) : EQ v r a b := ⟨strs_below h.strs hb, curs_below h.curs hb, h.good, h.sz⟩
theorem eq_of {u : World} {base : Nat} {r : RO} {a : Option Addr} {q : Nat} {b : Option Addr} {p : Nat} (h : OwnRing u base a r.recs.length q b r.curs.length p (r.recs.map Value.string) (curCells r.curs)) (hg : r.c = 0 → ringRightB r.cap r.first r.recs r.curs = true) (hz : r.recs.length ≤ 1000 ∧ r.curs.length ≤ 1000 ∧ ∀ s ∈ r.recs, s.size ≤ 100) : EQ u r a b := ⟨own_strs h.1, own_curs h.2, hg, hz⟩
theorem eq_lw {u : World} {r : RO} {a b a' b' : Option Addr} {q p q' p' : Nat} (h : EQ u r a b) (h' : EQ u r a' b') :
    Calls Tryz.prog 16 #[ringOutV r.cap r.first a r.recs.length q b r.curs.length p r.k r.t r.d r.c, ringOutV r.cap r.first a' r.recs.length q' b' r.curs.length p' r.k r.t r.d r.c] u fun e w' => e = .returned (.bool true) ∧ Below u.heap.size u w' :=
  law_lwRings r a q b p a' q' b' p' u h.strs h'.strs h.curs h'.curs (by have := h.sz.1; omega) (by have := h.sz.2.1; omega) (fun s hs => by have := h.sz.2.2 s hs; unfold maxLen; omega) h.good
theorem eq_new {u : World} {r : RO} (hz : r.recs = [] ∧ r.curs = []) (h3 : r.c = 0 → ringRightB r.cap r.first r.recs r.curs = true) : EQ u r none none := by
  obtain ⟨h1, h2⟩ := hz
  refine ⟨?_, ?_, h3, by rw [h1, h2]; simp⟩
  · rw [h1]; exact ⟨rfl, fun i h => absurd h (by simp)⟩
  · rw [h2]; exact ⟨rfl, fun i h => absurd h (by simp)⟩
theorem new_both (n : Int) : ∃ r : RO, Hid (∀ u, Calls Tryz.prog 25 #[.int .i64 n] u fun e w' => e = .returned (ringOutV r.cap r.first none r.recs.length 0 none r.curs.length 0 r.k r.t r.d r.c) ∧ Below u.heap.size u w') ∧ Hid (∀ u, Calls Tryz.prog 26 #[.int .i64 n] u fun e w' => e = .returned (ringOutV r.cap r.first none r.recs.length 0 none r.curs.length 0 r.k r.t r.d r.c) ∧ Below u.heap.size u w') ∧ Hid (r.c = 0 → ringRightB r.cap r.first r.recs r.curs = true) ∧ Hid (r.recs = [] ∧ r.curs = []) :=
  ⟨⟨newCap n, 0, [], [], 0, 0, ⟨#[]⟩, newCode n⟩, fun u => impl_ringNew n u, fun u => spec_ringNew n u, fun h => new_stays h, ⟨rfl, rfl⟩⟩
theorem put_all {cap first : Int} {recs : List ByteArray} {curs : List (Int × Int)} {k t : Int} {d : ByteArray} (h : (putR cap first recs curs k t d).c = 0) :
    endOf (putR cap first recs curs k t d).cap (putR cap first recs curs k t d).first (putR cap first recs curs k t d).recs (putR cap first recs curs k t d).curs = endOf cap first recs curs + 1 ∧ roomOf (putR cap first recs curs k t d).cap (putR cap first recs curs k t d).first (putR cap first recs curs k t d).recs (putR cap first recs curs k t d).curs = roomOf cap first recs curs - 1 ∧
      (atR (putR cap first recs curs k t d).cap (putR cap first recs curs k t d).first (putR cap first recs curs k t d).recs (putR cap first recs curs k t d).curs (endOf cap first recs curs)).k = k ∧ (atR (putR cap first recs curs k t d).cap (putR cap first recs curs k t d).first (putR cap first recs curs k t d).recs (putR cap first recs curs k t d).curs (endOf cap first recs curs)).t = t ∧ (atR (putR cap first recs curs k t d).cap (putR cap first recs curs k t d).first (putR cap first recs curs k t d).recs (putR cap first recs curs k t d).curs (endOf cap first recs curs)).d = d := by
  obtain ⟨h1, h2, h3⟩ := put_last h
  obtain ⟨_, _, e, _⟩ := put_stays h
  rw [e]
  simp only [RO.ring]
  rw [h3]
  exact ⟨h1, h2, rfl, rfl, rfl⟩
theorem ring_sz_ill (c : Int) : (RO.ill c).recs.length ≤ 1000 ∧ (RO.ill c).curs.length ≤ 1000 ∧ ∀ s ∈ (RO.ill c).recs, s.size ≤ 100 := ⟨by simp [RO.ill], by simp [RO.ill], fun s h => by simp [RO.ill] at h⟩
theorem ring_sz_put {cap first : Int} {recs : List ByteArray} {curs : List (Int × Int)} {k t : Int} {d : ByteArray} (h : Bnd cap first recs curs) : (putR cap first recs curs k t d).recs.length ≤ 1000 ∧ (putR cap first recs curs k t d).curs.length ≤ 1000 ∧ ∀ s ∈ (putR cap first recs curs k t d).recs, s.size ≤ 100 := by
  have hr := h.r
  have hk := h.k
  unfold putR
  split
  · exact ring_sz_ill _
  · split
    · exact ring_sz_ill _
    · refine ⟨by simp [RO.ring]; omega, by simp [RO.ring]; omega, fun s hs => ?_⟩
      rcases List.mem_append.1 hs with hs | hs
      · exact h.s s hs
      · rw [List.mem_singleton.1 hs]; exact recText_size k t d
theorem ring_sz_at {cap first : Int} {recs : List ByteArray} {curs : List (Int × Int)} {x : Int} (h : Bnd cap first recs curs) : (atR cap first recs curs x).recs.length ≤ 1000 ∧ (atR cap first recs curs x).curs.length ≤ 1000 ∧ ∀ s ∈ (atR cap first recs curs x).recs, s.size ≤ 100 := by
  have hr := h.r
  have hk := h.k
  unfold atR
  split
  · exact ring_sz_ill _
  · split
    · exact ring_sz_ill _
    · exact ⟨by simp; omega, by simp; omega, h.s⟩
theorem ring_sz_follow {cap first : Int} {recs : List ByteArray} {curs : List (Int × Int)} {x : Int} (h : Bnd cap first recs curs) : (followR cap first recs curs x).recs.length ≤ 1000 ∧ (followR cap first recs curs x).curs.length ≤ 1000 ∧ ∀ s ∈ (followR cap first recs curs x).recs, s.size ≤ 100 := by
  have hr := h.r
  have hk := h.k
  unfold followR
  split
  · exact ring_sz_ill _
  · split
    · exact ring_sz_ill _
    · split
      · exact ring_sz_ill _
      · exact ⟨by simp [RO.ring]; omega, by simp [RO.ring]; omega, h.s⟩
theorem ring_sz_leave {cap first : Int} {recs : List ByteArray} {curs : List (Int × Int)} {x : Int} (h : Bnd cap first recs curs) : (leaveR cap first recs curs x).recs.length ≤ 1000 ∧ (leaveR cap first recs curs x).curs.length ≤ 1000 ∧ ∀ s ∈ (leaveR cap first recs curs x).recs, s.size ≤ 100 := by
  have hr := h.r
  have hk := h.k
  unfold leaveR
  split
  · exact ring_sz_ill _
  · split
    · exact ring_sz_ill _
    · exact ⟨by simp [trimR, RO.ring]; omega, by simp [trimR, RO.ring]; omega, fun s hs => h.s s (List.mem_of_mem_drop hs)⟩
theorem ring_sz_move {cap first : Int} {recs : List ByteArray} {curs : List (Int × Int)} {x y : Int} (h : Bnd cap first recs curs) : (moveR cap first recs curs x y).recs.length ≤ 1000 ∧ (moveR cap first recs curs x y).curs.length ≤ 1000 ∧ ∀ s ∈ (moveR cap first recs curs x y).recs, s.size ≤ 100 := by
  have hr := h.r
  have hk := h.k
  unfold moveR
  split
  · exact ring_sz_ill _
  · split
    · exact ring_sz_ill _
    · split
      · exact ring_sz_ill _
      · exact ⟨by simp [trimR, RO.ring]; omega, by simp [trimR, RO.ring]; omega, fun s hs => h.s s (List.mem_of_mem_drop hs)⟩
set_option maxRecDepth 100000 in
set_option maxHeartbeats 8000000 in
theorem law_fnRing_in (z0 : Option Addr) (len0 cap0 : Nat) (z1 : Option Addr) (len1 cap1 : Nat) (w : World) (h0 : len0 ≤ 1048576) (h1 : len1 ≤ 1048576) (hb0 : Bytes w.heap.size w z0 len0) (hb1 : Bytes w.heap.size w z1 len1) (hT : utabs w) :
    Calls Tryz.prog 3 #[.slice z0 len0 cap0, .slice z1 len1 cap1] w fun x w' => x = .returned (.bool true) ∧ Below w.heap.size w w' := by
  have HW : Hid (BW w w z0 len0 z1 len1) := ⟨hb0, hb1, Below.refl _ _⟩
  have HT : Hid (utabs w) := hT
  clear hb0 hb1 hT
  go_enter Tryz.func3, Tryz.ntmps3
  go_wp2_with fail
  refine (draw_ringPut _ z0 len0 cap0 h0 HW.out.y0).mono ?_
  rintro x w1 ⟨C1, F1, a1, n1, q1, b1, m1, p1, rs1, cs1, kk, tt, dd, rfl, hr1, hk1⟩
  have HN1 : Hid (Bnd C1 F1 rs1 cs1) := hr1.2.1
  have HKD : Hid (recDrawn kk tt dd) := hk1
  have HK : Hid (BK ((w1.alloc (ringObj C1 F1 a1 n1 q1 b1 m1 p1)).alloc (recObj kk tt dd)) (w1.heap.size + 1) kk tt dd) := ⟨by have h := heap_alloc_new (w1.alloc (ringObj C1 F1 a1 n1 q1 b1 m1 p1)) (recObj kk tt dd); rwa [World.size_alloc] at h⟩
  have HR1 : Hid (BR ((w1.alloc (ringObj C1 F1 a1 n1 q1 b1 m1 p1)).alloc (recObj kk tt dd)) w1.heap.size C1 F1 a1 n1 q1 b1 m1 p1 rs1 cs1) := (br_new hr1).under (below_new _ _)
  replace HW : Hid (BW w ((w1.alloc (ringObj C1 F1 a1 n1 q1 b1 m1 p1)).alloc (recObj kk tt dd)) z0 len0 z1 len1) := ((HW.out.under hr1.2.2).under (below_new _ _)).under (below_new _ _)
  clear hr1 hk1
  obtain ⟨R1, hR1⟩ : ∃ R, putR C1 F1 rs1 cs1 kk tt dd = R := ⟨_, rfl⟩
  have HI1 : Hid (∀ u, RFit u a1 n1 q1 b1 m1 p1 rs1 cs1 → utabs u → Calls Tryz.prog 8 #[ringV C1 F1 a1 n1 q1 b1 m1 p1, recV kk tt dd] u fun e w' => Answers u w' e R1) := fun u h hT => by rw [← hR1]; exact impl_ringPut rs1 cs1 kk tt dd u h (by have := HKD.out.2.2; unfold maxLen; omega) hT
  have HS1 : Hid (∀ u, RFit u a1 n1 q1 b1 m1 p1 rs1 cs1 → Calls Tryz.prog 17 #[ringV C1 F1 a1 n1 q1 b1 m1 p1, recV kk tt dd] u fun e w' => Answers u w' e R1) := fun u h => by rw [← hR1]; exact spec_ringPut rs1 cs1 kk tt dd u h (by have := HKD.out.2.2; unfold maxLen; omega)
  have HG1 : Hid (R1.c = 0 → ringRightB R1.cap R1.first R1.recs R1.curs = true) := by rw [← hR1]; exact fun h => by obtain ⟨_, _, e, h4⟩ := put_stays h; rw [e]; exact h4
  have HZ1 : Hid (R1.recs.length ≤ 1000 ∧ R1.curs.length ≤ 1000 ∧ ∀ s ∈ R1.recs, s.size ≤ 100) := by rw [← hR1]; exact ring_sz_put HN1.out
  have HP1 : Hid (R1.c = 0 → endOf R1.cap R1.first R1.recs R1.curs = endOf C1 F1 rs1 cs1 + 1 ∧ roomOf R1.cap R1.first R1.recs R1.curs = roomOf C1 F1 rs1 cs1 - 1 ∧ (atR R1.cap R1.first R1.recs R1.curs (endOf C1 F1 rs1 cs1)).k = kk ∧ (atR R1.cap R1.first R1.recs R1.curs (endOf C1 F1 rs1 cs1)).t = tt ∧ (atR R1.cap R1.first R1.recs R1.curs (endOf C1 F1 rs1 cs1)).d = dd) := by rw [← hR1]; exact put_all
  clear hR1
  have hc1 := fun o => cell_of_block0 HR1.out.box o
  have hc2 := fun o => cell_of_block0 HK.out.box o
  go_wp2_with fail
  refine (HI1.out _ HR1.out.fit (utabs_below HT.out HW.out.bel)).mono ?_
  rintro x w2 ⟨ax1, qx1, bx1, px1, rfl, hox1, hbx1⟩
  have HA1 : Hid (BA (w2.alloc (outObj R1.cap R1.first ax1 R1.recs.length qx1 bx1 R1.curs.length px1 R1.k R1.t R1.d R1.c)) w2.heap.size R1 ax1 qx1 bx1 px1) := ba_new hox1 HZ1.out
  replace HW : Hid (BW w (w2.alloc (outObj R1.cap R1.first ax1 R1.recs.length qx1 bx1 R1.curs.length px1 R1.k R1.t R1.d R1.c)) z0 len0 z1 len1) := (HW.out.under hbx1).under (below_new _ _)
  replace HR1 : Hid (BR (w2.alloc (outObj R1.cap R1.first ax1 R1.recs.length qx1 bx1 R1.curs.length px1 R1.k R1.t R1.d R1.c)) w1.heap.size C1 F1 a1 n1 q1 b1 m1 p1 rs1 cs1) := (HR1.out.under hbx1).under (below_new _ _)
  replace HK : Hid (BK (w2.alloc (outObj R1.cap R1.first ax1 R1.recs.length qx1 bx1 R1.curs.length px1 R1.k R1.t R1.d R1.c)) (w1.heap.size + 1) kk tt dd) := (HK.out.under hbx1).under (below_new _ _)
  clear hox1 hbx1
  clear hc1 hc2
  go_wp2_with fail
  refine (draw_ringAt _ z1 len1 cap1 h1 HW.out.y1).mono ?_
  rintro x w3 ⟨C2, F2, a2, n2, q2, b2, m2, p2, rs2, cs2, st2, rfl, hr2⟩
  have HN2 : Hid (Bnd C2 F2 rs2 cs2) := hr2.2.1
  have HR2 : Hid (BR (w3.alloc (ringObj C2 F2 a2 n2 q2 b2 m2 p2)) w3.heap.size C2 F2 a2 n2 q2 b2 m2 p2 rs2 cs2) := br_new hr2
  replace HW : Hid (BW w (w3.alloc (ringObj C2 F2 a2 n2 q2 b2 m2 p2)) z0 len0 z1 len1) := (HW.out.under hr2.2.2).under (below_new _ _)
  replace HR1 : Hid (BR (w3.alloc (ringObj C2 F2 a2 n2 q2 b2 m2 p2)) w1.heap.size C1 F1 a1 n1 q1 b1 m1 p1 rs1 cs1) := (HR1.out.under hr2.2.2).under (below_new _ _)
  replace HK : Hid (BK (w3.alloc (ringObj C2 F2 a2 n2 q2 b2 m2 p2)) (w1.heap.size + 1) kk tt dd) := (HK.out.under hr2.2.2).under (below_new _ _)
  replace HA1 : Hid (BA (w3.alloc (ringObj C2 F2 a2 n2 q2 b2 m2 p2)) w2.heap.size R1 ax1 qx1 bx1 px1) := (HA1.out.under hr2.2.2).under (below_new _ _)
  clear hr2
  obtain ⟨R2, hR2⟩ : ∃ R, atR C2 F2 rs2 cs2 st2 = R := ⟨_, rfl⟩
  have HI2 : Hid (∀ u, RFit u a2 n2 q2 b2 m2 p2 rs2 cs2 → utabs u → Calls Tryz.prog 18 #[ringV C2 F2 a2 n2 q2 b2 m2 p2, .int .i64 st2] u fun e w' => Answers u w' e R2) := fun u h hT => by rw [← hR2]; exact impl_ringAt rs2 cs2 st2 u h hT
  have HS2 : Hid (∀ u, RFit u a2 n2 q2 b2 m2 p2 rs2 cs2 → Calls Tryz.prog 19 #[ringV C2 F2 a2 n2 q2 b2 m2 p2, .int .i64 st2] u fun e w' => Answers u w' e R2) := fun u h => by rw [← hR2]; exact spec_ringAt rs2 cs2 st2 u h
  have HG2 : Hid (R2.c = 0 → ringRightB R2.cap R2.first R2.recs R2.curs = true) := by rw [← hR2]; exact at_stays
  have HZ2 : Hid (R2.recs.length ≤ 1000 ∧ R2.curs.length ≤ 1000 ∧ ∀ s ∈ R2.recs, s.size ≤ 100) := by rw [← hR2]; exact ring_sz_at HN2.out
  clear hR2
  go_wp2_with fail
  refine (draw_follow _ z0 len0 cap0 h0 HW.out.y0).mono ?_
  rintro x w4 ⟨C3, F3, a3, n3, q3, b3, m3, p3, rs3, cs3, st3, rfl, hr3⟩
  have HN3 : Hid (Bnd C3 F3 rs3 cs3) := hr3.2.1
  have HR3 : Hid (BR (w4.alloc (ringObj C3 F3 a3 n3 q3 b3 m3 p3)) w4.heap.size C3 F3 a3 n3 q3 b3 m3 p3 rs3 cs3) := br_new hr3
  replace HW : Hid (BW w (w4.alloc (ringObj C3 F3 a3 n3 q3 b3 m3 p3)) z0 len0 z1 len1) := (HW.out.under hr3.2.2).under (below_new _ _)
  replace HR1 : Hid (BR (w4.alloc (ringObj C3 F3 a3 n3 q3 b3 m3 p3)) w1.heap.size C1 F1 a1 n1 q1 b1 m1 p1 rs1 cs1) := (HR1.out.under hr3.2.2).under (below_new _ _)
  replace HK : Hid (BK (w4.alloc (ringObj C3 F3 a3 n3 q3 b3 m3 p3)) (w1.heap.size + 1) kk tt dd) := (HK.out.under hr3.2.2).under (below_new _ _)
  replace HA1 : Hid (BA (w4.alloc (ringObj C3 F3 a3 n3 q3 b3 m3 p3)) w2.heap.size R1 ax1 qx1 bx1 px1) := (HA1.out.under hr3.2.2).under (below_new _ _)
  replace HR2 : Hid (BR (w4.alloc (ringObj C3 F3 a3 n3 q3 b3 m3 p3)) w3.heap.size C2 F2 a2 n2 q2 b2 m2 p2 rs2 cs2) := (HR2.out.under hr3.2.2).under (below_new _ _)
  clear hr3
  obtain ⟨R3, hR3⟩ : ∃ R, followR C3 F3 rs3 cs3 st3 = R := ⟨_, rfl⟩
  have HI3 : Hid (∀ u, RFit u a3 n3 q3 b3 m3 p3 rs3 cs3 → utabs u → Calls Tryz.prog 20 #[ringV C3 F3 a3 n3 q3 b3 m3 p3, .int .i64 st3] u fun e w' => Answers u w' e R3) := fun u h hT => by rw [← hR3]; exact impl_follow rs3 cs3 st3 u h hT
  have HS3 : Hid (∀ u, RFit u a3 n3 q3 b3 m3 p3 rs3 cs3 → Calls Tryz.prog 21 #[ringV C3 F3 a3 n3 q3 b3 m3 p3, .int .i64 st3] u fun e w' => Answers u w' e R3) := fun u h => by rw [← hR3]; exact spec_follow rs3 cs3 st3 u h
  have HG3 : Hid (R3.c = 0 → ringRightB R3.cap R3.first R3.recs R3.curs = true) := by rw [← hR3]; exact follow_stays
  have HZ3 : Hid (R3.recs.length ≤ 1000 ∧ R3.curs.length ≤ 1000 ∧ ∀ s ∈ R3.recs, s.size ≤ 100) := by rw [← hR3]; exact ring_sz_follow HN3.out
  clear hR3
  go_wp2_with fail
  refine (draw_move _ z1 len1 cap1 h1 HW.out.y1).mono ?_
  rintro x w5 ⟨C4, F4, a4, n4, q4, b4, m4, p4, rs4, cs4, st4, sv4, rfl, hr4⟩
  have HN4 : Hid (Bnd C4 F4 rs4 cs4) := hr4.2.1
  have HR4 : Hid (BR (w5.alloc (ringObj C4 F4 a4 n4 q4 b4 m4 p4)) w5.heap.size C4 F4 a4 n4 q4 b4 m4 p4 rs4 cs4) := br_new hr4
  replace HW : Hid (BW w (w5.alloc (ringObj C4 F4 a4 n4 q4 b4 m4 p4)) z0 len0 z1 len1) := (HW.out.under hr4.2.2).under (below_new _ _)
  replace HR1 : Hid (BR (w5.alloc (ringObj C4 F4 a4 n4 q4 b4 m4 p4)) w1.heap.size C1 F1 a1 n1 q1 b1 m1 p1 rs1 cs1) := (HR1.out.under hr4.2.2).under (below_new _ _)
  replace HK : Hid (BK (w5.alloc (ringObj C4 F4 a4 n4 q4 b4 m4 p4)) (w1.heap.size + 1) kk tt dd) := (HK.out.under hr4.2.2).under (below_new _ _)
  replace HA1 : Hid (BA (w5.alloc (ringObj C4 F4 a4 n4 q4 b4 m4 p4)) w2.heap.size R1 ax1 qx1 bx1 px1) := (HA1.out.under hr4.2.2).under (below_new _ _)
  replace HR2 : Hid (BR (w5.alloc (ringObj C4 F4 a4 n4 q4 b4 m4 p4)) w3.heap.size C2 F2 a2 n2 q2 b2 m2 p2 rs2 cs2) := (HR2.out.under hr4.2.2).under (below_new _ _)
  replace HR3 : Hid (BR (w5.alloc (ringObj C4 F4 a4 n4 q4 b4 m4 p4)) w4.heap.size C3 F3 a3 n3 q3 b3 m3 p3 rs3 cs3) := (HR3.out.under hr4.2.2).under (below_new _ _)
  clear hr4
  obtain ⟨R4, hR4⟩ : ∃ R, moveR C4 F4 rs4 cs4 st4 sv4 = R := ⟨_, rfl⟩
  have HI4 : Hid (∀ u, RFit u a4 n4 q4 b4 m4 p4 rs4 cs4 → utabs u → Calls Tryz.prog 12 #[ringV C4 F4 a4 n4 q4 b4 m4 p4, .int .i64 st4, .int .i64 sv4] u fun e w' => Answers u w' e R4) := fun u h hT => by rw [← hR4]; exact impl_move rs4 cs4 st4 sv4 u h hT
  have HS4 : Hid (∀ u, RFit u a4 n4 q4 b4 m4 p4 rs4 cs4 → Calls Tryz.prog 22 #[ringV C4 F4 a4 n4 q4 b4 m4 p4, .int .i64 st4, .int .i64 sv4] u fun e w' => Answers u w' e R4) := fun u h => by rw [← hR4]; exact spec_move rs4 cs4 st4 sv4 u h
  have HG4 : Hid (R4.c = 0 → ringRightB R4.cap R4.first R4.recs R4.curs = true) := by rw [← hR4]; exact fun h => by obtain ⟨_, _, e, h4, _⟩ := move_stays h; rw [e]; exact h4
  have HZ4 : Hid (R4.recs.length ≤ 1000 ∧ R4.curs.length ≤ 1000 ∧ ∀ s ∈ R4.recs, s.size ≤ 100) := by rw [← hR4]; exact ring_sz_move HN4.out
  have HP4 : Hid (R4.c = 0 → (∀ c ∈ R4.curs, R4.first ≤ c.2) ∧ ∀ x : Int, R4.first ≤ x → x < R4.first + (R4.recs.length : Int) → (atR R4.cap R4.first R4.recs R4.curs x).k = (atR C4 F4 rs4 cs4 x).k ∧ (atR R4.cap R4.first R4.recs R4.curs x).t = (atR C4 F4 rs4 cs4 x).t ∧ (atR R4.cap R4.first R4.recs R4.curs x).d = (atR C4 F4 rs4 cs4 x).d) := by rw [← hR4]; exact move_kept
  clear hR4
  have hc4 := fun o => cell_of_block0 HR4.out.box o
  go_wp2_with fail
  refine (HI4.out _ HR4.out.fit (utabs_below HT.out HW.out.bel)).mono ?_
  rintro x w6 ⟨ax4, qx4, bx4, px4, rfl, hox4, hbx4⟩
  have HA4 : Hid (BA (w6.alloc (outObj R4.cap R4.first ax4 R4.recs.length qx4 bx4 R4.curs.length px4 R4.k R4.t R4.d R4.c)) w6.heap.size R4 ax4 qx4 bx4 px4) := ba_new hox4 HZ4.out
  replace HW : Hid (BW w (w6.alloc (outObj R4.cap R4.first ax4 R4.recs.length qx4 bx4 R4.curs.length px4 R4.k R4.t R4.d R4.c)) z0 len0 z1 len1) := (HW.out.under hbx4).under (below_new _ _)
  replace HR1 : Hid (BR (w6.alloc (outObj R4.cap R4.first ax4 R4.recs.length qx4 bx4 R4.curs.length px4 R4.k R4.t R4.d R4.c)) w1.heap.size C1 F1 a1 n1 q1 b1 m1 p1 rs1 cs1) := (HR1.out.under hbx4).under (below_new _ _)
  replace HK : Hid (BK (w6.alloc (outObj R4.cap R4.first ax4 R4.recs.length qx4 bx4 R4.curs.length px4 R4.k R4.t R4.d R4.c)) (w1.heap.size + 1) kk tt dd) := (HK.out.under hbx4).under (below_new _ _)
  replace HA1 : Hid (BA (w6.alloc (outObj R4.cap R4.first ax4 R4.recs.length qx4 bx4 R4.curs.length px4 R4.k R4.t R4.d R4.c)) w2.heap.size R1 ax1 qx1 bx1 px1) := (HA1.out.under hbx4).under (below_new _ _)
  replace HR2 : Hid (BR (w6.alloc (outObj R4.cap R4.first ax4 R4.recs.length qx4 bx4 R4.curs.length px4 R4.k R4.t R4.d R4.c)) w3.heap.size C2 F2 a2 n2 q2 b2 m2 p2 rs2 cs2) := (HR2.out.under hbx4).under (below_new _ _)
  replace HR3 : Hid (BR (w6.alloc (outObj R4.cap R4.first ax4 R4.recs.length qx4 bx4 R4.curs.length px4 R4.k R4.t R4.d R4.c)) w4.heap.size C3 F3 a3 n3 q3 b3 m3 p3 rs3 cs3) := (HR3.out.under hbx4).under (below_new _ _)
  replace HR4 : Hid (BR (w6.alloc (outObj R4.cap R4.first ax4 R4.recs.length qx4 bx4 R4.curs.length px4 R4.k R4.t R4.d R4.c)) w5.heap.size C4 F4 a4 n4 q4 b4 m4 p4 rs4 cs4) := (HR4.out.under hbx4).under (below_new _ _)
  clear hox4 hbx4
  clear hc4
  go_wp2_with fail
  refine (draw_leave _ z0 len0 cap0 h0 HW.out.y0).mono ?_
  rintro x w7 ⟨C5, F5, a5, n5, q5, b5, m5, p5, rs5, cs5, st5, rfl, hr5⟩
  have HN5 : Hid (Bnd C5 F5 rs5 cs5) := hr5.2.1
  have HR5 : Hid (BR (w7.alloc (ringObj C5 F5 a5 n5 q5 b5 m5 p5)) w7.heap.size C5 F5 a5 n5 q5 b5 m5 p5 rs5 cs5) := br_new hr5
  replace HW : Hid (BW w (w7.alloc (ringObj C5 F5 a5 n5 q5 b5 m5 p5)) z0 len0 z1 len1) := (HW.out.under hr5.2.2).under (below_new _ _)
  replace HR1 : Hid (BR (w7.alloc (ringObj C5 F5 a5 n5 q5 b5 m5 p5)) w1.heap.size C1 F1 a1 n1 q1 b1 m1 p1 rs1 cs1) := (HR1.out.under hr5.2.2).under (below_new _ _)
  replace HK : Hid (BK (w7.alloc (ringObj C5 F5 a5 n5 q5 b5 m5 p5)) (w1.heap.size + 1) kk tt dd) := (HK.out.under hr5.2.2).under (below_new _ _)
  replace HA1 : Hid (BA (w7.alloc (ringObj C5 F5 a5 n5 q5 b5 m5 p5)) w2.heap.size R1 ax1 qx1 bx1 px1) := (HA1.out.under hr5.2.2).under (below_new _ _)
  replace HR2 : Hid (BR (w7.alloc (ringObj C5 F5 a5 n5 q5 b5 m5 p5)) w3.heap.size C2 F2 a2 n2 q2 b2 m2 p2 rs2 cs2) := (HR2.out.under hr5.2.2).under (below_new _ _)
  replace HR3 : Hid (BR (w7.alloc (ringObj C5 F5 a5 n5 q5 b5 m5 p5)) w4.heap.size C3 F3 a3 n3 q3 b3 m3 p3 rs3 cs3) := (HR3.out.under hr5.2.2).under (below_new _ _)
  replace HR4 : Hid (BR (w7.alloc (ringObj C5 F5 a5 n5 q5 b5 m5 p5)) w5.heap.size C4 F4 a4 n4 q4 b4 m4 p4 rs4 cs4) := (HR4.out.under hr5.2.2).under (below_new _ _)
  replace HA4 : Hid (BA (w7.alloc (ringObj C5 F5 a5 n5 q5 b5 m5 p5)) w6.heap.size R4 ax4 qx4 bx4 px4) := (HA4.out.under hr5.2.2).under (below_new _ _)
  clear hr5
  obtain ⟨R5, hR5⟩ : ∃ R, leaveR C5 F5 rs5 cs5 st5 = R := ⟨_, rfl⟩
  have HI5 : Hid (∀ u, RFit u a5 n5 q5 b5 m5 p5 rs5 cs5 → utabs u → Calls Tryz.prog 23 #[ringV C5 F5 a5 n5 q5 b5 m5 p5, .int .i64 st5] u fun e w' => Answers u w' e R5) := fun u h hT => by rw [← hR5]; exact impl_leave rs5 cs5 st5 u h hT
  have HS5 : Hid (∀ u, RFit u a5 n5 q5 b5 m5 p5 rs5 cs5 → Calls Tryz.prog 24 #[ringV C5 F5 a5 n5 q5 b5 m5 p5, .int .i64 st5] u fun e w' => Answers u w' e R5) := fun u h => by rw [← hR5]; exact spec_leave rs5 cs5 st5 u h
  have HG5 : Hid (R5.c = 0 → ringRightB R5.cap R5.first R5.recs R5.curs = true) := by rw [← hR5]; exact leave_stays
  have HZ5 : Hid (R5.recs.length ≤ 1000 ∧ R5.curs.length ≤ 1000 ∧ ∀ s ∈ R5.recs, s.size ≤ 100) := by rw [← hR5]; exact ring_sz_leave HN5.out
  clear hR5
  go_wp2_with fail
  refine (draw_ringNew _ z1 len1 cap1 h1 HW.out.y1).mono ?_
  rintro x w8 ⟨st8, rfl, hb8⟩
  replace HW : Hid (BW w w8 z0 len0 z1 len1) := HW.out.under hb8
  replace HR1 : Hid (BR w8 w1.heap.size C1 F1 a1 n1 q1 b1 m1 p1 rs1 cs1) := HR1.out.under hb8
  replace HK : Hid (BK w8 (w1.heap.size + 1) kk tt dd) := HK.out.under hb8
  replace HA1 : Hid (BA w8 w2.heap.size R1 ax1 qx1 bx1 px1) := HA1.out.under hb8
  replace HR2 : Hid (BR w8 w3.heap.size C2 F2 a2 n2 q2 b2 m2 p2 rs2 cs2) := HR2.out.under hb8
  replace HR3 : Hid (BR w8 w4.heap.size C3 F3 a3 n3 q3 b3 m3 p3 rs3 cs3) := HR3.out.under hb8
  replace HR4 : Hid (BR w8 w5.heap.size C4 F4 a4 n4 q4 b4 m4 p4 rs4 cs4) := HR4.out.under hb8
  replace HA4 : Hid (BA w8 w6.heap.size R4 ax4 qx4 bx4 px4) := HA4.out.under hb8
  replace HR5 : Hid (BR w8 w7.heap.size C5 F5 a5 n5 q5 b5 m5 p5 rs5 cs5) := HR5.out.under hb8
  clear hb8
  go_wp2_with fail
  refine (draw_ringEnd _ z0 len0 cap0 h0 HW.out.y0).mono ?_
  rintro x w9 ⟨C6, F6, a6, n6, q6, b6, m6, p6, rs6, cs6, rfl, hr6⟩
  have HN6 : Hid (Bnd C6 F6 rs6 cs6) := hr6.2.1
  have HR6 : Hid (BR (w9.alloc (ringObj C6 F6 a6 n6 q6 b6 m6 p6)) w9.heap.size C6 F6 a6 n6 q6 b6 m6 p6 rs6 cs6) := br_new hr6
  replace HW : Hid (BW w (w9.alloc (ringObj C6 F6 a6 n6 q6 b6 m6 p6)) z0 len0 z1 len1) := (HW.out.under hr6.2.2).under (below_new _ _)
  replace HR1 : Hid (BR (w9.alloc (ringObj C6 F6 a6 n6 q6 b6 m6 p6)) w1.heap.size C1 F1 a1 n1 q1 b1 m1 p1 rs1 cs1) := (HR1.out.under hr6.2.2).under (below_new _ _)
  replace HK : Hid (BK (w9.alloc (ringObj C6 F6 a6 n6 q6 b6 m6 p6)) (w1.heap.size + 1) kk tt dd) := (HK.out.under hr6.2.2).under (below_new _ _)
  replace HA1 : Hid (BA (w9.alloc (ringObj C6 F6 a6 n6 q6 b6 m6 p6)) w2.heap.size R1 ax1 qx1 bx1 px1) := (HA1.out.under hr6.2.2).under (below_new _ _)
  replace HR2 : Hid (BR (w9.alloc (ringObj C6 F6 a6 n6 q6 b6 m6 p6)) w3.heap.size C2 F2 a2 n2 q2 b2 m2 p2 rs2 cs2) := (HR2.out.under hr6.2.2).under (below_new _ _)
  replace HR3 : Hid (BR (w9.alloc (ringObj C6 F6 a6 n6 q6 b6 m6 p6)) w4.heap.size C3 F3 a3 n3 q3 b3 m3 p3 rs3 cs3) := (HR3.out.under hr6.2.2).under (below_new _ _)
  replace HR4 : Hid (BR (w9.alloc (ringObj C6 F6 a6 n6 q6 b6 m6 p6)) w5.heap.size C4 F4 a4 n4 q4 b4 m4 p4 rs4 cs4) := (HR4.out.under hr6.2.2).under (below_new _ _)
  replace HA4 : Hid (BA (w9.alloc (ringObj C6 F6 a6 n6 q6 b6 m6 p6)) w6.heap.size R4 ax4 qx4 bx4 px4) := (HA4.out.under hr6.2.2).under (below_new _ _)
  replace HR5 : Hid (BR (w9.alloc (ringObj C6 F6 a6 n6 q6 b6 m6 p6)) w7.heap.size C5 F5 a5 n5 q5 b5 m5 p5 rs5 cs5) := (HR5.out.under hr6.2.2).under (below_new _ _)
  clear hr6
  go_upto_region 12 with fail
  obtain ⟨U, hU⟩ : ∃ U, (w9.alloc (ringObj C6 F6 a6 n6 q6 b6 m6 p6)) = U := ⟨_, rfl⟩
  rw [hU] at HW
  rw [hU] at HR1
  rw [hU] at HK
  rw [hU] at HA1
  rw [hU] at HR2
  rw [hU] at HR3
  rw [hU] at HR4
  rw [hU] at HA4
  rw [hU] at HR5
  rw [hU] at HR6
  rw [hU]
  clear hU
  obtain ⟨X1, hX1⟩ : ∃ X, w1.heap.size = X := ⟨_, rfl⟩
  rw [hX1] at HR1
  rw [hX1] at HK
  rw [hX1]
  clear hX1
  obtain ⟨X2, hX2⟩ : ∃ X, w2.heap.size = X := ⟨_, rfl⟩
  rw [hX2] at HA1
  rw [hX2]
  clear hX2
  obtain ⟨X3, hX3⟩ : ∃ X, w3.heap.size = X := ⟨_, rfl⟩
  rw [hX3] at HR2
  rw [hX3]
  clear hX3
  obtain ⟨X4, hX4⟩ : ∃ X, w4.heap.size = X := ⟨_, rfl⟩
  rw [hX4] at HR3
  rw [hX4]
  clear hX4
  obtain ⟨X5, hX5⟩ : ∃ X, w5.heap.size = X := ⟨_, rfl⟩
  rw [hX5] at HR4
  rw [hX5]
  clear hX5
  obtain ⟨X6, hX6⟩ : ∃ X, w6.heap.size = X := ⟨_, rfl⟩
  rw [hX6] at HA4
  rw [hX6]
  clear hX6
  obtain ⟨X7, hX7⟩ : ∃ X, w7.heap.size = X := ⟨_, rfl⟩
  rw [hX7] at HR5
  rw [hX7]
  clear hX7
  obtain ⟨X9, hX9⟩ : ∃ X, w9.heap.size = X := ⟨_, rfl⟩
  rw [hX9] at HR6
  rw [hX9]
  clear hX9
  obtain ⟨E6, hE6⟩ : ∃ E, endOf C6 F6 rs6 cs6 = E := ⟨_, rfl⟩
  obtain ⟨O6, hO6⟩ : ∃ E, roomOf C6 F6 rs6 cs6 = E := ⟨_, rfl⟩
  obtain ⟨B1, hB1⟩ : ∃ E, ringRightB C1 F1 rs1 cs1 = E := ⟨_, rfl⟩
  have HIE : Hid (∀ u, RIn u a6 n6 q6 b6 m6 p6 rs6 cs6 → utabs u → Calls Tryz.prog 27 #[ringV C6 F6 a6 n6 q6 b6 m6 p6] u fun e w' => e = .returned (.int .i64 E6) ∧ Below u.heap.size u w') := fun u h hT => by rw [← hE6]; exact impl_ringEnd rs6 cs6 u h hT
  have HSE : Hid (∀ u, RIn u a6 n6 q6 b6 m6 p6 rs6 cs6 → Calls Tryz.prog 28 #[ringV C6 F6 a6 n6 q6 b6 m6 p6] u fun e w' => e = .returned (.int .i64 E6) ∧ Below u.heap.size u w') := fun u h => by rw [← hE6]; exact spec_ringEnd rs6 cs6 u h
  have HIO : Hid (∀ u, RIn u a6 n6 q6 b6 m6 p6 rs6 cs6 → utabs u → Calls Tryz.prog 29 #[ringV C6 F6 a6 n6 q6 b6 m6 p6] u fun e w' => e = .returned (.int .i64 O6) ∧ Below u.heap.size u w') := fun u h hT => by rw [← hO6]; exact impl_ringRoom rs6 cs6 u h hT
  have HSO : Hid (∀ u, RIn u a6 n6 q6 b6 m6 p6 rs6 cs6 → Calls Tryz.prog 30 #[ringV C6 F6 a6 n6 q6 b6 m6 p6] u fun e w' => e = .returned (.int .i64 O6) ∧ Below u.heap.size u w') := fun u h => by rw [← hO6]; exact spec_ringRoom rs6 cs6 u h
  have HIR : Hid (∀ u, RIn u a1 n1 q1 b1 m1 p1 rs1 cs1 → utabs u → Calls Tryz.prog 31 #[ringV C1 F1 a1 n1 q1 b1 m1 p1] u fun e w' => e = .returned (.bool B1) ∧ Below u.heap.size u w') := fun u h hT => by rw [← hB1]; exact impl_ringRight rs1 cs1 u h hT
  have HSR : Hid (∀ u, RIn u a1 n1 q1 b1 m1 p1 rs1 cs1 → Calls Tryz.prog 32 #[ringV C1 F1 a1 n1 q1 b1 m1 p1] u fun e w' => e = .returned (.bool B1) ∧ Below u.heap.size u w') := fun u h => by rw [← hB1]; exact spec_ringRight C1 F1 a1 n1 q1 b1 m1 p1 rs1 cs1 u h.strs h.curs h.sz' h.rle h.cle
  clear hE6 hO6 hB1
  obtain ⟨R8, HI8, HS8, HG8, HZ8⟩ := new_both st8
  have e6 : (E6 != E6) = false := by simp
  have o6 : (O6 != O6) = false := by simp
  have b1e : (B1 != B1) = false := by simp
  replace HW : Hid (BW w U.drew z0 len0 z1 len1) := HW.out.under ((Below.refl _ _).drew)
  replace HR1 : Hid (BR U.drew X1 C1 F1 a1 n1 q1 b1 m1 p1 rs1 cs1) := HR1.out.under ((Below.refl _ _).drew)
  replace HK : Hid (BK U.drew (X1 + 1) kk tt dd) := HK.out.under ((Below.refl _ _).drew)
  replace HA1 : Hid (BA U.drew X2 R1 ax1 qx1 bx1 px1) := HA1.out.under ((Below.refl _ _).drew)
  replace HR2 : Hid (BR U.drew X3 C2 F2 a2 n2 q2 b2 m2 p2 rs2 cs2) := HR2.out.under ((Below.refl _ _).drew)
  replace HR3 : Hid (BR U.drew X4 C3 F3 a3 n3 q3 b3 m3 p3 rs3 cs3) := HR3.out.under ((Below.refl _ _).drew)
  replace HR4 : Hid (BR U.drew X5 C4 F4 a4 n4 q4 b4 m4 p4 rs4 cs4) := HR4.out.under ((Below.refl _ _).drew)
  replace HA4 : Hid (BA U.drew X6 R4 ax4 qx4 bx4 px4) := HA4.out.under ((Below.refl _ _).drew)
  replace HR5 : Hid (BR U.drew X7 C5 F5 a5 n5 q5 b5 m5 p5 rs5 cs5) := HR5.out.under ((Below.refl _ _).drew)
  replace HR6 : Hid (BR U.drew X9 C6 F6 a6 n6 q6 b6 m6 p6 rs6 cs6) := HR6.out.under ((Below.refl _ _).drew)
  go_cut [140] (fun s140 wc => s140 = .bool false ∧ Hid (BW w wc z0 len0 z1 len1) ∧ Hid (BR wc X1 C1 F1 a1 n1 q1 b1 m1 p1 rs1 cs1) ∧ Hid (BK wc (X1 + 1) kk tt dd) ∧ Hid (BA wc X2 R1 ax1 qx1 bx1 px1) ∧ Hid (BR wc X3 C2 F2 a2 n2 q2 b2 m2 p2 rs2 cs2) ∧ Hid (BR wc X4 C3 F3 a3 n3 q3 b3 m3 p3 rs3 cs3) ∧ Hid (BR wc X5 C4 F4 a4 n4 q4 b4 m4 p4 rs4 cs4) ∧ Hid (BA wc X6 R4 ax4 qx4 bx4 px4) ∧ Hid (BR wc X7 C5 F5 a5 n5 q5 b5 m5 p5 rs5 cs5) ∧ Hid (BR wc X9 C6 F6 a6 n6 q6 b6 m6 p6 rs6 cs6))
  case first =>
    as_aux_lemma =>
      simp only [List.append_eq, List.cons_append, List.nil_append]
      go_region_held3 (fun u => (∀ o, u.cell? ⟨X1, o, none⟩ = (#[.int .i64 C1, .int .i64 F1, .slice a1 n1 q1, .slice b1 m1 p1] : Array Value)[o]?) ∧ (∀ o, u.cell? ⟨X1 + 1, o, none⟩ = (#[.int .i64 kk, .int .i64 tt, .string dd] : Array Value)[o]?) ∧ (∀ o, u.cell? ⟨X2, o, none⟩ = (#[.int .i64 R1.cap, .int .i64 R1.first, .slice ax1 R1.recs.length qx1, .slice bx1 R1.curs.length px1, .int .i64 R1.k, .int .i64 R1.t, .string R1.d, .int .i64 R1.c] : Array Value)[o]?) ∧ (∀ o, u.cell? ⟨X3, o, none⟩ = (#[.int .i64 C2, .int .i64 F2, .slice a2 n2 q2, .slice b2 m2 p2] : Array Value)[o]?) ∧ (∀ o, u.cell? ⟨X4, o, none⟩ = (#[.int .i64 C3, .int .i64 F3, .slice a3 n3 q3, .slice b3 m3 p3] : Array Value)[o]?) ∧ (∀ o, u.cell? ⟨X5, o, none⟩ = (#[.int .i64 C4, .int .i64 F4, .slice a4 n4 q4, .slice b4 m4 p4] : Array Value)[o]?) ∧ (∀ o, u.cell? ⟨X6, o, none⟩ = (#[.int .i64 R4.cap, .int .i64 R4.first, .slice ax4 R4.recs.length qx4, .slice bx4 R4.curs.length px4, .int .i64 R4.k, .int .i64 R4.t, .string R4.d, .int .i64 R4.c] : Array Value)[o]?) ∧ (∀ o, u.cell? ⟨X7, o, none⟩ = (#[.int .i64 C5, .int .i64 F5, .slice a5 n5 q5, .slice b5 m5 p5] : Array Value)[o]?) ∧ (∀ o, u.cell? ⟨X9, o, none⟩ = (#[.int .i64 C6, .int .i64 F6, .slice a6 n6 q6, .slice b6 m6 p6] : Array Value)[o]?)) (exact ⟨fun o => cell_of_block0 HR1.out.box o, fun o => cell_of_block0 HK.out.box o, fun o => cell_of_block0 HA1.out.box o, fun o => cell_of_block0 HR2.out.box o, fun o => cell_of_block0 HR3.out.box o, fun o => cell_of_block0 HR4.out.box o, fun o => cell_of_block0 HA4.out.box o, fun o => cell_of_block0 HR5.out.box o, fun o => cell_of_block0 HR6.out.box o⟩) (first | (go_at_call 17; refine (HS1.out _ HR1.out.fit).mono ?_; rintro x v2 ⟨az, qz, bz, pz, rfl, hoz, hbz⟩; have HW : Hid (BW w v2 z0 len0 z1 len1) := HW.out.under hbz; have HR1 : Hid (BR v2 X1 C1 F1 a1 n1 q1 b1 m1 p1 rs1 cs1) := HR1.out.under hbz; have HK : Hid (BK v2 (X1 + 1) kk tt dd) := HK.out.under hbz; have HA1 : Hid (BA v2 X2 R1 ax1 qx1 bx1 px1) := HA1.out.under hbz; have HR2 : Hid (BR v2 X3 C2 F2 a2 n2 q2 b2 m2 p2 rs2 cs2) := HR2.out.under hbz; have HR3 : Hid (BR v2 X4 C3 F3 a3 n3 q3 b3 m3 p3 rs3 cs3) := HR3.out.under hbz; have HR4 : Hid (BR v2 X5 C4 F4 a4 n4 q4 b4 m4 p4 rs4 cs4) := HR4.out.under hbz; have HA4 : Hid (BA v2 X6 R4 ax4 qx4 bx4 px4) := HA4.out.under hbz; have HR5 : Hid (BR v2 X7 C5 F5 a5 n5 q5 b5 m5 p5 rs5 cs5) := HR5.out.under hbz; have HR6 : Hid (BR v2 X9 C6 F6 a6 n6 q6 b6 m6 p6 rs6 cs6) := HR6.out.under hbz; have HEA : Hid (EQ v2 R1 ax1 bx1) := ⟨HA1.out.strs, HA1.out.curs, HG1.out, HZ1.out⟩; have HEB : Hid (EQ v2 R1 az bz) := eq_of hoz HG1.out HZ1.out; clear hoz hbz) | (go_at_call 18; refine (HI2.out _ HR2.out.fit (utabs_below HT.out HW.out.bel)).mono ?_; rintro x v1 ⟨ay, qy, bY, py, rfl, hoy, hby⟩; have HW : Hid (BW w v1 z0 len0 z1 len1) := HW.out.under hby; have HR1 : Hid (BR v1 X1 C1 F1 a1 n1 q1 b1 m1 p1 rs1 cs1) := HR1.out.under hby; have HK : Hid (BK v1 (X1 + 1) kk tt dd) := HK.out.under hby; have HA1 : Hid (BA v1 X2 R1 ax1 qx1 bx1 px1) := HA1.out.under hby; have HR2 : Hid (BR v1 X3 C2 F2 a2 n2 q2 b2 m2 p2 rs2 cs2) := HR2.out.under hby; have HR3 : Hid (BR v1 X4 C3 F3 a3 n3 q3 b3 m3 p3 rs3 cs3) := HR3.out.under hby; have HR4 : Hid (BR v1 X5 C4 F4 a4 n4 q4 b4 m4 p4 rs4 cs4) := HR4.out.under hby; have HA4 : Hid (BA v1 X6 R4 ax4 qx4 bx4 px4) := HA4.out.under hby; have HR5 : Hid (BR v1 X7 C5 F5 a5 n5 q5 b5 m5 p5 rs5 cs5) := HR5.out.under hby; have HR6 : Hid (BR v1 X9 C6 F6 a6 n6 q6 b6 m6 p6 rs6 cs6) := HR6.out.under hby; have HEA : Hid (EQ v1 R2 ay bY) := eq_of hoy HG2.out HZ2.out; clear hoy hby) | (go_at_call 19; refine (HS2.out _ HR2.out.fit).mono ?_; rintro x v2 ⟨az, qz, bz, pz, rfl, hoz, hbz⟩; have HW : Hid (BW w v2 z0 len0 z1 len1) := HW.out.under hbz; have HR1 : Hid (BR v2 X1 C1 F1 a1 n1 q1 b1 m1 p1 rs1 cs1) := HR1.out.under hbz; have HK : Hid (BK v2 (X1 + 1) kk tt dd) := HK.out.under hbz; have HA1 : Hid (BA v2 X2 R1 ax1 qx1 bx1 px1) := HA1.out.under hbz; have HR2 : Hid (BR v2 X3 C2 F2 a2 n2 q2 b2 m2 p2 rs2 cs2) := HR2.out.under hbz; have HR3 : Hid (BR v2 X4 C3 F3 a3 n3 q3 b3 m3 p3 rs3 cs3) := HR3.out.under hbz; have HR4 : Hid (BR v2 X5 C4 F4 a4 n4 q4 b4 m4 p4 rs4 cs4) := HR4.out.under hbz; have HA4 : Hid (BA v2 X6 R4 ax4 qx4 bx4 px4) := HA4.out.under hbz; have HR5 : Hid (BR v2 X7 C5 F5 a5 n5 q5 b5 m5 p5 rs5 cs5) := HR5.out.under hbz; have HR6 : Hid (BR v2 X9 C6 F6 a6 n6 q6 b6 m6 p6 rs6 cs6) := HR6.out.under hbz; have HEA : Hid (EQ v2 R2 ay bY) := HEA.out.under hbz; have HEB : Hid (EQ v2 R2 az bz) := eq_of hoz HG2.out HZ2.out; clear hoz hbz) | (go_at_call 20; refine (HI3.out _ HR3.out.fit (utabs_below HT.out HW.out.bel)).mono ?_; rintro x v1 ⟨ay, qy, bY, py, rfl, hoy, hby⟩; have HW : Hid (BW w v1 z0 len0 z1 len1) := HW.out.under hby; have HR1 : Hid (BR v1 X1 C1 F1 a1 n1 q1 b1 m1 p1 rs1 cs1) := HR1.out.under hby; have HK : Hid (BK v1 (X1 + 1) kk tt dd) := HK.out.under hby; have HA1 : Hid (BA v1 X2 R1 ax1 qx1 bx1 px1) := HA1.out.under hby; have HR2 : Hid (BR v1 X3 C2 F2 a2 n2 q2 b2 m2 p2 rs2 cs2) := HR2.out.under hby; have HR3 : Hid (BR v1 X4 C3 F3 a3 n3 q3 b3 m3 p3 rs3 cs3) := HR3.out.under hby; have HR4 : Hid (BR v1 X5 C4 F4 a4 n4 q4 b4 m4 p4 rs4 cs4) := HR4.out.under hby; have HA4 : Hid (BA v1 X6 R4 ax4 qx4 bx4 px4) := HA4.out.under hby; have HR5 : Hid (BR v1 X7 C5 F5 a5 n5 q5 b5 m5 p5 rs5 cs5) := HR5.out.under hby; have HR6 : Hid (BR v1 X9 C6 F6 a6 n6 q6 b6 m6 p6 rs6 cs6) := HR6.out.under hby; have HEA : Hid (EQ v1 R3 ay bY) := eq_of hoy HG3.out HZ3.out; clear hoy hby) | (go_at_call 21; refine (HS3.out _ HR3.out.fit).mono ?_; rintro x v2 ⟨az, qz, bz, pz, rfl, hoz, hbz⟩; have HW : Hid (BW w v2 z0 len0 z1 len1) := HW.out.under hbz; have HR1 : Hid (BR v2 X1 C1 F1 a1 n1 q1 b1 m1 p1 rs1 cs1) := HR1.out.under hbz; have HK : Hid (BK v2 (X1 + 1) kk tt dd) := HK.out.under hbz; have HA1 : Hid (BA v2 X2 R1 ax1 qx1 bx1 px1) := HA1.out.under hbz; have HR2 : Hid (BR v2 X3 C2 F2 a2 n2 q2 b2 m2 p2 rs2 cs2) := HR2.out.under hbz; have HR3 : Hid (BR v2 X4 C3 F3 a3 n3 q3 b3 m3 p3 rs3 cs3) := HR3.out.under hbz; have HR4 : Hid (BR v2 X5 C4 F4 a4 n4 q4 b4 m4 p4 rs4 cs4) := HR4.out.under hbz; have HA4 : Hid (BA v2 X6 R4 ax4 qx4 bx4 px4) := HA4.out.under hbz; have HR5 : Hid (BR v2 X7 C5 F5 a5 n5 q5 b5 m5 p5 rs5 cs5) := HR5.out.under hbz; have HR6 : Hid (BR v2 X9 C6 F6 a6 n6 q6 b6 m6 p6 rs6 cs6) := HR6.out.under hbz; have HEA : Hid (EQ v2 R3 ay bY) := HEA.out.under hbz; have HEB : Hid (EQ v2 R3 az bz) := eq_of hoz HG3.out HZ3.out; clear hoz hbz) | (go_at_call 22; refine (HS4.out _ HR4.out.fit).mono ?_; rintro x v2 ⟨az, qz, bz, pz, rfl, hoz, hbz⟩; have HW : Hid (BW w v2 z0 len0 z1 len1) := HW.out.under hbz; have HR1 : Hid (BR v2 X1 C1 F1 a1 n1 q1 b1 m1 p1 rs1 cs1) := HR1.out.under hbz; have HK : Hid (BK v2 (X1 + 1) kk tt dd) := HK.out.under hbz; have HA1 : Hid (BA v2 X2 R1 ax1 qx1 bx1 px1) := HA1.out.under hbz; have HR2 : Hid (BR v2 X3 C2 F2 a2 n2 q2 b2 m2 p2 rs2 cs2) := HR2.out.under hbz; have HR3 : Hid (BR v2 X4 C3 F3 a3 n3 q3 b3 m3 p3 rs3 cs3) := HR3.out.under hbz; have HR4 : Hid (BR v2 X5 C4 F4 a4 n4 q4 b4 m4 p4 rs4 cs4) := HR4.out.under hbz; have HA4 : Hid (BA v2 X6 R4 ax4 qx4 bx4 px4) := HA4.out.under hbz; have HR5 : Hid (BR v2 X7 C5 F5 a5 n5 q5 b5 m5 p5 rs5 cs5) := HR5.out.under hbz; have HR6 : Hid (BR v2 X9 C6 F6 a6 n6 q6 b6 m6 p6 rs6 cs6) := HR6.out.under hbz; have HEA : Hid (EQ v2 R4 ax4 bx4) := ⟨HA4.out.strs, HA4.out.curs, HG4.out, HZ4.out⟩; have HEB : Hid (EQ v2 R4 az bz) := eq_of hoz HG4.out HZ4.out; clear hoz hbz) | (go_at_call 23; refine (HI5.out _ HR5.out.fit (utabs_below HT.out HW.out.bel)).mono ?_; rintro x v1 ⟨ay, qy, bY, py, rfl, hoy, hby⟩; have HW : Hid (BW w v1 z0 len0 z1 len1) := HW.out.under hby; have HR1 : Hid (BR v1 X1 C1 F1 a1 n1 q1 b1 m1 p1 rs1 cs1) := HR1.out.under hby; have HK : Hid (BK v1 (X1 + 1) kk tt dd) := HK.out.under hby; have HA1 : Hid (BA v1 X2 R1 ax1 qx1 bx1 px1) := HA1.out.under hby; have HR2 : Hid (BR v1 X3 C2 F2 a2 n2 q2 b2 m2 p2 rs2 cs2) := HR2.out.under hby; have HR3 : Hid (BR v1 X4 C3 F3 a3 n3 q3 b3 m3 p3 rs3 cs3) := HR3.out.under hby; have HR4 : Hid (BR v1 X5 C4 F4 a4 n4 q4 b4 m4 p4 rs4 cs4) := HR4.out.under hby; have HA4 : Hid (BA v1 X6 R4 ax4 qx4 bx4 px4) := HA4.out.under hby; have HR5 : Hid (BR v1 X7 C5 F5 a5 n5 q5 b5 m5 p5 rs5 cs5) := HR5.out.under hby; have HR6 : Hid (BR v1 X9 C6 F6 a6 n6 q6 b6 m6 p6 rs6 cs6) := HR6.out.under hby; have HEA : Hid (EQ v1 R5 ay bY) := eq_of hoy HG5.out HZ5.out; clear hoy hby) | (go_at_call 24; refine (HS5.out _ HR5.out.fit).mono ?_; rintro x v2 ⟨az, qz, bz, pz, rfl, hoz, hbz⟩; have HW : Hid (BW w v2 z0 len0 z1 len1) := HW.out.under hbz; have HR1 : Hid (BR v2 X1 C1 F1 a1 n1 q1 b1 m1 p1 rs1 cs1) := HR1.out.under hbz; have HK : Hid (BK v2 (X1 + 1) kk tt dd) := HK.out.under hbz; have HA1 : Hid (BA v2 X2 R1 ax1 qx1 bx1 px1) := HA1.out.under hbz; have HR2 : Hid (BR v2 X3 C2 F2 a2 n2 q2 b2 m2 p2 rs2 cs2) := HR2.out.under hbz; have HR3 : Hid (BR v2 X4 C3 F3 a3 n3 q3 b3 m3 p3 rs3 cs3) := HR3.out.under hbz; have HR4 : Hid (BR v2 X5 C4 F4 a4 n4 q4 b4 m4 p4 rs4 cs4) := HR4.out.under hbz; have HA4 : Hid (BA v2 X6 R4 ax4 qx4 bx4 px4) := HA4.out.under hbz; have HR5 : Hid (BR v2 X7 C5 F5 a5 n5 q5 b5 m5 p5 rs5 cs5) := HR5.out.under hbz; have HR6 : Hid (BR v2 X9 C6 F6 a6 n6 q6 b6 m6 p6 rs6 cs6) := HR6.out.under hbz; have HEA : Hid (EQ v2 R5 ay bY) := HEA.out.under hbz; have HEB : Hid (EQ v2 R5 az bz) := eq_of hoz HG5.out HZ5.out; clear hoz hbz) | (go_at_call 25; refine (HI8.out _).mono ?_; rintro x v1 ⟨rfl, hby⟩; have HW : Hid (BW w v1 z0 len0 z1 len1) := HW.out.under hby; have HR1 : Hid (BR v1 X1 C1 F1 a1 n1 q1 b1 m1 p1 rs1 cs1) := HR1.out.under hby; have HK : Hid (BK v1 (X1 + 1) kk tt dd) := HK.out.under hby; have HA1 : Hid (BA v1 X2 R1 ax1 qx1 bx1 px1) := HA1.out.under hby; have HR2 : Hid (BR v1 X3 C2 F2 a2 n2 q2 b2 m2 p2 rs2 cs2) := HR2.out.under hby; have HR3 : Hid (BR v1 X4 C3 F3 a3 n3 q3 b3 m3 p3 rs3 cs3) := HR3.out.under hby; have HR4 : Hid (BR v1 X5 C4 F4 a4 n4 q4 b4 m4 p4 rs4 cs4) := HR4.out.under hby; have HA4 : Hid (BA v1 X6 R4 ax4 qx4 bx4 px4) := HA4.out.under hby; have HR5 : Hid (BR v1 X7 C5 F5 a5 n5 q5 b5 m5 p5 rs5 cs5) := HR5.out.under hby; have HR6 : Hid (BR v1 X9 C6 F6 a6 n6 q6 b6 m6 p6 rs6 cs6) := HR6.out.under hby; have HEA : Hid (EQ v1 R8 none none) := eq_new HZ8.out HG8.out; clear hby) | (go_at_call 26; refine (HS8.out _).mono ?_; rintro x v2 ⟨rfl, hbz⟩; have HW : Hid (BW w v2 z0 len0 z1 len1) := HW.out.under hbz; have HR1 : Hid (BR v2 X1 C1 F1 a1 n1 q1 b1 m1 p1 rs1 cs1) := HR1.out.under hbz; have HK : Hid (BK v2 (X1 + 1) kk tt dd) := HK.out.under hbz; have HA1 : Hid (BA v2 X2 R1 ax1 qx1 bx1 px1) := HA1.out.under hbz; have HR2 : Hid (BR v2 X3 C2 F2 a2 n2 q2 b2 m2 p2 rs2 cs2) := HR2.out.under hbz; have HR3 : Hid (BR v2 X4 C3 F3 a3 n3 q3 b3 m3 p3 rs3 cs3) := HR3.out.under hbz; have HR4 : Hid (BR v2 X5 C4 F4 a4 n4 q4 b4 m4 p4 rs4 cs4) := HR4.out.under hbz; have HA4 : Hid (BA v2 X6 R4 ax4 qx4 bx4 px4) := HA4.out.under hbz; have HR5 : Hid (BR v2 X7 C5 F5 a5 n5 q5 b5 m5 p5 rs5 cs5) := HR5.out.under hbz; have HR6 : Hid (BR v2 X9 C6 F6 a6 n6 q6 b6 m6 p6 rs6 cs6) := HR6.out.under hbz; have HEA : Hid (EQ v2 R8 none none) := eq_new HZ8.out HG8.out; have HEB : Hid (EQ v2 R8 none none) := eq_new HZ8.out HG8.out; clear hbz) | (go_at_call 27; refine (HIE.out _ HR6.out.fit.rin (utabs_below HT.out HW.out.bel)).mono ?_; rintro x v4 ⟨rfl, hbq⟩; have HW : Hid (BW w v4 z0 len0 z1 len1) := HW.out.under hbq; have HR1 : Hid (BR v4 X1 C1 F1 a1 n1 q1 b1 m1 p1 rs1 cs1) := HR1.out.under hbq; have HK : Hid (BK v4 (X1 + 1) kk tt dd) := HK.out.under hbq; have HA1 : Hid (BA v4 X2 R1 ax1 qx1 bx1 px1) := HA1.out.under hbq; have HR2 : Hid (BR v4 X3 C2 F2 a2 n2 q2 b2 m2 p2 rs2 cs2) := HR2.out.under hbq; have HR3 : Hid (BR v4 X4 C3 F3 a3 n3 q3 b3 m3 p3 rs3 cs3) := HR3.out.under hbq; have HR4 : Hid (BR v4 X5 C4 F4 a4 n4 q4 b4 m4 p4 rs4 cs4) := HR4.out.under hbq; have HA4 : Hid (BA v4 X6 R4 ax4 qx4 bx4 px4) := HA4.out.under hbq; have HR5 : Hid (BR v4 X7 C5 F5 a5 n5 q5 b5 m5 p5 rs5 cs5) := HR5.out.under hbq; have HR6 : Hid (BR v4 X9 C6 F6 a6 n6 q6 b6 m6 p6 rs6 cs6) := HR6.out.under hbq; clear hbq) | (go_at_call 28; refine (HSE.out _ HR6.out.fit.rin).mono ?_; rintro x v4 ⟨rfl, hbq⟩; have HW : Hid (BW w v4 z0 len0 z1 len1) := HW.out.under hbq; have HR1 : Hid (BR v4 X1 C1 F1 a1 n1 q1 b1 m1 p1 rs1 cs1) := HR1.out.under hbq; have HK : Hid (BK v4 (X1 + 1) kk tt dd) := HK.out.under hbq; have HA1 : Hid (BA v4 X2 R1 ax1 qx1 bx1 px1) := HA1.out.under hbq; have HR2 : Hid (BR v4 X3 C2 F2 a2 n2 q2 b2 m2 p2 rs2 cs2) := HR2.out.under hbq; have HR3 : Hid (BR v4 X4 C3 F3 a3 n3 q3 b3 m3 p3 rs3 cs3) := HR3.out.under hbq; have HR4 : Hid (BR v4 X5 C4 F4 a4 n4 q4 b4 m4 p4 rs4 cs4) := HR4.out.under hbq; have HA4 : Hid (BA v4 X6 R4 ax4 qx4 bx4 px4) := HA4.out.under hbq; have HR5 : Hid (BR v4 X7 C5 F5 a5 n5 q5 b5 m5 p5 rs5 cs5) := HR5.out.under hbq; have HR6 : Hid (BR v4 X9 C6 F6 a6 n6 q6 b6 m6 p6 rs6 cs6) := HR6.out.under hbq; clear hbq) | (go_at_call 29; refine (HIO.out _ HR6.out.fit.rin (utabs_below HT.out HW.out.bel)).mono ?_; rintro x v4 ⟨rfl, hbq⟩; have HW : Hid (BW w v4 z0 len0 z1 len1) := HW.out.under hbq; have HR1 : Hid (BR v4 X1 C1 F1 a1 n1 q1 b1 m1 p1 rs1 cs1) := HR1.out.under hbq; have HK : Hid (BK v4 (X1 + 1) kk tt dd) := HK.out.under hbq; have HA1 : Hid (BA v4 X2 R1 ax1 qx1 bx1 px1) := HA1.out.under hbq; have HR2 : Hid (BR v4 X3 C2 F2 a2 n2 q2 b2 m2 p2 rs2 cs2) := HR2.out.under hbq; have HR3 : Hid (BR v4 X4 C3 F3 a3 n3 q3 b3 m3 p3 rs3 cs3) := HR3.out.under hbq; have HR4 : Hid (BR v4 X5 C4 F4 a4 n4 q4 b4 m4 p4 rs4 cs4) := HR4.out.under hbq; have HA4 : Hid (BA v4 X6 R4 ax4 qx4 bx4 px4) := HA4.out.under hbq; have HR5 : Hid (BR v4 X7 C5 F5 a5 n5 q5 b5 m5 p5 rs5 cs5) := HR5.out.under hbq; have HR6 : Hid (BR v4 X9 C6 F6 a6 n6 q6 b6 m6 p6 rs6 cs6) := HR6.out.under hbq; clear hbq) | (go_at_call 30; refine (HSO.out _ HR6.out.fit.rin).mono ?_; rintro x v4 ⟨rfl, hbq⟩; have HW : Hid (BW w v4 z0 len0 z1 len1) := HW.out.under hbq; have HR1 : Hid (BR v4 X1 C1 F1 a1 n1 q1 b1 m1 p1 rs1 cs1) := HR1.out.under hbq; have HK : Hid (BK v4 (X1 + 1) kk tt dd) := HK.out.under hbq; have HA1 : Hid (BA v4 X2 R1 ax1 qx1 bx1 px1) := HA1.out.under hbq; have HR2 : Hid (BR v4 X3 C2 F2 a2 n2 q2 b2 m2 p2 rs2 cs2) := HR2.out.under hbq; have HR3 : Hid (BR v4 X4 C3 F3 a3 n3 q3 b3 m3 p3 rs3 cs3) := HR3.out.under hbq; have HR4 : Hid (BR v4 X5 C4 F4 a4 n4 q4 b4 m4 p4 rs4 cs4) := HR4.out.under hbq; have HA4 : Hid (BA v4 X6 R4 ax4 qx4 bx4 px4) := HA4.out.under hbq; have HR5 : Hid (BR v4 X7 C5 F5 a5 n5 q5 b5 m5 p5 rs5 cs5) := HR5.out.under hbq; have HR6 : Hid (BR v4 X9 C6 F6 a6 n6 q6 b6 m6 p6 rs6 cs6) := HR6.out.under hbq; clear hbq) | (go_at_call 31; refine (HIR.out _ HR1.out.fit.rin (utabs_below HT.out HW.out.bel)).mono ?_; rintro x v4 ⟨rfl, hbq⟩; have HW : Hid (BW w v4 z0 len0 z1 len1) := HW.out.under hbq; have HR1 : Hid (BR v4 X1 C1 F1 a1 n1 q1 b1 m1 p1 rs1 cs1) := HR1.out.under hbq; have HK : Hid (BK v4 (X1 + 1) kk tt dd) := HK.out.under hbq; have HA1 : Hid (BA v4 X2 R1 ax1 qx1 bx1 px1) := HA1.out.under hbq; have HR2 : Hid (BR v4 X3 C2 F2 a2 n2 q2 b2 m2 p2 rs2 cs2) := HR2.out.under hbq; have HR3 : Hid (BR v4 X4 C3 F3 a3 n3 q3 b3 m3 p3 rs3 cs3) := HR3.out.under hbq; have HR4 : Hid (BR v4 X5 C4 F4 a4 n4 q4 b4 m4 p4 rs4 cs4) := HR4.out.under hbq; have HA4 : Hid (BA v4 X6 R4 ax4 qx4 bx4 px4) := HA4.out.under hbq; have HR5 : Hid (BR v4 X7 C5 F5 a5 n5 q5 b5 m5 p5 rs5 cs5) := HR5.out.under hbq; have HR6 : Hid (BR v4 X9 C6 F6 a6 n6 q6 b6 m6 p6 rs6 cs6) := HR6.out.under hbq; clear hbq) | (go_at_call 32; refine (HSR.out _ HR1.out.fit.rin).mono ?_; rintro x v4 ⟨rfl, hbq⟩; have HW : Hid (BW w v4 z0 len0 z1 len1) := HW.out.under hbq; have HR1 : Hid (BR v4 X1 C1 F1 a1 n1 q1 b1 m1 p1 rs1 cs1) := HR1.out.under hbq; have HK : Hid (BK v4 (X1 + 1) kk tt dd) := HK.out.under hbq; have HA1 : Hid (BA v4 X2 R1 ax1 qx1 bx1 px1) := HA1.out.under hbq; have HR2 : Hid (BR v4 X3 C2 F2 a2 n2 q2 b2 m2 p2 rs2 cs2) := HR2.out.under hbq; have HR3 : Hid (BR v4 X4 C3 F3 a3 n3 q3 b3 m3 p3 rs3 cs3) := HR3.out.under hbq; have HR4 : Hid (BR v4 X5 C4 F4 a4 n4 q4 b4 m4 p4 rs4 cs4) := HR4.out.under hbq; have HA4 : Hid (BA v4 X6 R4 ax4 qx4 bx4 px4) := HA4.out.under hbq; have HR5 : Hid (BR v4 X7 C5 F5 a5 n5 q5 b5 m5 p5 rs5 cs5) := HR5.out.under hbq; have HR6 : Hid (BR v4 X9 C6 F6 a6 n6 q6 b6 m6 p6 rs6 cs6) := HR6.out.under hbq; clear hbq) | (go_at_call 16; refine (eq_lw HEA.out HEB.out).mono ?_; rintro x v3 ⟨rfl, hbw⟩; have HW : Hid (BW w v3 z0 len0 z1 len1) := HW.out.under hbw; have HR1 : Hid (BR v3 X1 C1 F1 a1 n1 q1 b1 m1 p1 rs1 cs1) := HR1.out.under hbw; have HK : Hid (BK v3 (X1 + 1) kk tt dd) := HK.out.under hbw; have HA1 : Hid (BA v3 X2 R1 ax1 qx1 bx1 px1) := HA1.out.under hbw; have HR2 : Hid (BR v3 X3 C2 F2 a2 n2 q2 b2 m2 p2 rs2 cs2) := HR2.out.under hbw; have HR3 : Hid (BR v3 X4 C3 F3 a3 n3 q3 b3 m3 p3 rs3 cs3) := HR3.out.under hbw; have HR4 : Hid (BR v3 X5 C4 F4 a4 n4 q4 b4 m4 p4 rs4 cs4) := HR4.out.under hbw; have HA4 : Hid (BA v3 X6 R4 ax4 qx4 bx4 px4) := HA4.out.under hbw; have HR5 : Hid (BR v3 X7 C5 F5 a5 n5 q5 b5 m5 p5 rs5 cs5) := HR5.out.under hbw; have HR6 : Hid (BR v3 X9 C6 F6 a6 n6 q6 b6 m6 p6 rs6 cs6) := HR6.out.under hbw; clear hbw HEA HEB))
      all_goals (go_wp2_with fail; go_meet; exact ⟨rfl, HW, HR1, HK, HA1, HR2, HR3, HR4, HA4, HR5, HR6⟩)
  case rest =>
  obtain ⟨rfl, HWc, HR1c, HKc, HA1c, HR2c, HR3c, HR4c, HA4c, HR5c, HR6c⟩ := hcut
  replace HW : Hid (BW w wc z0 len0 z1 len1) := HWc
  replace HR1 : Hid (BR wc X1 C1 F1 a1 n1 q1 b1 m1 p1 rs1 cs1) := HR1c
  replace HK : Hid (BK wc (X1 + 1) kk tt dd) := HKc
  replace HA1 : Hid (BA wc X2 R1 ax1 qx1 bx1 px1) := HA1c
  replace HR2 : Hid (BR wc X3 C2 F2 a2 n2 q2 b2 m2 p2 rs2 cs2) := HR2c
  replace HR3 : Hid (BR wc X4 C3 F3 a3 n3 q3 b3 m3 p3 rs3 cs3) := HR3c
  replace HR4 : Hid (BR wc X5 C4 F4 a4 n4 q4 b4 m4 p4 rs4 cs4) := HR4c
  replace HA4 : Hid (BA wc X6 R4 ax4 qx4 bx4 px4) := HA4c
  replace HR5 : Hid (BR wc X7 C5 F5 a5 n5 q5 b5 m5 p5 rs5 cs5) := HR5c
  replace HR6 : Hid (BR wc X9 C6 F6 a6 n6 q6 b6 m6 p6 rs6 cs6) := HR6c
  clear HWc HR1c HKc HA1c HR2c HR3c HR4c HA4c HR5c HR6c
  clear HI2 HS2 HI3 HS3 HI1 HS1 HI4 HS4 HI5 HS5 HIE HSE HIO HSO HIR HSR HI8 HS8 HG8 HZ8 e6 o6 b1e HZ2 HZ3 HZ5 HG2 HG3 HG5
  have cA4 := fun o => cell_of_block0 HA4.out.box o
  have cA1 := fun o => cell_of_block0 HA1.out.box o
  go_upto_if 143 with fail
  go_cut [] (fun wd => Hid (BW w wd z0 len0 z1 len1) ∧ Hid (BR wd X1 C1 F1 a1 n1 q1 b1 m1 p1 rs1 cs1) ∧ Hid (BK wd (X1 + 1) kk tt dd) ∧ Hid (BA wd X2 R1 ax1 qx1 bx1 px1))
  case first =>
    as_aux_lemma =>
      by_cases hd : R4.c = 0
      case neg =>
        have hdn : (R4.c == 0) = false := by rw [beq_eq_false_iff_ne]; exact hd
        clear hd
        go_wp2_with fail
        go_meet
        exact ⟨HW, HR1, HK, HA1⟩
      have hdn : (R4.c == 0) = true := by rw [beq_iff_eq]; exact hd
      rw [hdn]
      clear hdn
      have HPP : Hid _ := HP4.out hd
      have hrt := HG4.out hd
      obtain ⟨hF4, _, hL4, hM4⟩ := right_bnd hrt
      have hend : R4.first + (R4.recs.length : Int) ≤ 1000000 := ((sright_iff ..).1 hrt).2.2.2.1
      have HE4 : Hid (∀ u, RFit u ax4 R4.recs.length qx4 bx4 R4.curs.length px4 R4.recs R4.curs → Calls Tryz.prog 28 #[ringV R4.cap R4.first ax4 R4.recs.length qx4 bx4 R4.curs.length px4] u fun e w' => e = .returned (.int .i64 (R4.first + (R4.recs.length : Int))) ∧ Below u.heap.size u w') := fun u h => by have hh := spec_ringEnd (cap := R4.cap) (first := R4.first) R4.recs R4.curs u h.rin; unfold endOf at hh; rwa [if_pos hrt] at hh
      clear hrt hd HG4 HP4
      go_wp2_with fail
      go_loopw [20] (fun i wr => ∃ j : Nat, j ≤ R4.curs.length ∧ i = .int .i64 j ∧ Hid (BW w wr z0 len0 z1 len1) ∧ Hid (BR wr X1 C1 F1 a1 n1 q1 b1 m1 p1 rs1 cs1) ∧ Hid (BK wr (X1 + 1) kk tt dd) ∧ Hid (BA wr X2 R1 ax1 qx1 bx1 px1) ∧ Hid (BR wr X5 C4 F4 a4 n4 q4 b4 m4 p4 rs4 cs4) ∧ Hid (BA wr X6 R4 ax4 qx4 bx4 px4)) (fun i _ => R4.curs.length - (intOf i).toNat)
      case atStart => exact ⟨0, by omega, rfl, HW, HR1, HK, HA1, HR4, HA4⟩
      case round =>
        obtain ⟨j, hj, rfl, HWr, HR1r, HKr, HA1r, HR4r, HA4r⟩ := hrel
        clear HW HR1 HK HA1 HR2 HR3 HR4 HA4 HR5 HR6 cA4 cA1
        have cA4 := fun o => cell_of_block0 HA4r.out.box o
        by_cases hlt : j < R4.curs.length
        · obtain ⟨bb, off, G, A, hbe, hge, g1, g2⟩ := curs_at HA4r.out.curs (Below.refl _ _) hlt
          have hle : R4.first ≤ A := HPP.out.1 (G, A) (List.mem_of_getElem? hge)
          have hgt : ¬ (A < R4.first) := by omega
          subst hbe
          clear hge
          go_upto_region 18 with fail
          go_quiet (first | (fail))
          go_wp2_with fail
          exact ⟨⟨j + 1, by omega, by go_num, HWr.out.under (below_dn (Below.refl _ _) _), HR1r.out.under (below_dn (Below.refl _ _) _), HKr.out.under (below_dn (Below.refl _ _) _), HA1r.out.under (below_dn (Below.refl _ _) _), HR4r.out.under (below_dn (Below.refl _ _) _), HA4r.out.under (below_dn (Below.refl _ _) _)⟩, by simp [intOf]; omega⟩
        · go_wp2_with fail
          clear cA4 hlt hj
          go_loopw [21] (fun kv wr => ∃ y : Int, kv = .int .i64 y ∧ R4.first ≤ y ∧ y ≤ R4.first + (R4.recs.length : Int) ∧ Hid (BW w wr z0 len0 z1 len1) ∧ Hid (BR wr X1 C1 F1 a1 n1 q1 b1 m1 p1 rs1 cs1) ∧ Hid (BK wr (X1 + 1) kk tt dd) ∧ Hid (BA wr X2 R1 ax1 qx1 bx1 px1) ∧ Hid (BR wr X5 C4 F4 a4 n4 q4 b4 m4 p4 rs4 cs4) ∧ Hid (BA wr X6 R4 ax4 qx4 bx4 px4)) (fun kv _ => (R4.first + (R4.recs.length : Int) - intOf kv).toNat)
          case atStart => exact ⟨R4.first, rfl, by omega, by omega, HWr, HR1r, HKr, HA1r, HR4r, HA4r⟩
          case round =>
            obtain ⟨y, rfl, hy1, hy2, HWs, HR1s, HKs, HA1s, HR4s, HA4s⟩ := hrel
            clear HWr HR1r HKr HA1r HR4r HA4r
            have cA4 := fun o => cell_of_block0 HA4s.out.box o
            go_wp2_with fail
            refine (HE4.out _ HA4s.out.fit).mono ?_
            rintro x v ⟨rfl, hbv⟩
            have HWv : Hid (BW w v z0 len0 z1 len1) := HWs.out.under hbv
            have HR1v : Hid (BR v X1 C1 F1 a1 n1 q1 b1 m1 p1 rs1 cs1) := HR1s.out.under hbv
            have HKv : Hid (BK v (X1 + 1) kk tt dd) := HKs.out.under hbv
            have HA1v : Hid (BA v X2 R1 ax1 qx1 bx1 px1) := HA1s.out.under hbv
            have HR4v : Hid (BR v X5 C4 F4 a4 n4 q4 b4 m4 p4 rs4 cs4) := HR4s.out.under hbv
            have HA4v : Hid (BA v X6 R4 ax4 qx4 bx4 px4) := HA4s.out.under hbv
            clear hbv cA4 HWs HR1s HKs HA1s HR4s HA4s
            have cA4 := fun o => cell_of_block0 HA4v.out.box o
            have cR4 := fun o => cell_of_block0 HR4v.out.box o
            by_cases hlt2 : y < R4.first + (R4.recs.length : Int)
            · obtain ⟨qk, hqk⟩ : ∃ x, (atR C4 F4 rs4 cs4 y).k = x := ⟨_, rfl⟩
              obtain ⟨qt, hqt⟩ : ∃ x, (atR C4 F4 rs4 cs4 y).t = x := ⟨_, rfl⟩
              obtain ⟨qd, hqd⟩ : ∃ x, (atR C4 F4 rs4 cs4 y).d = x := ⟨_, rfl⟩
              have hq := HPP.out.2 y hy1 hlt2
              rw [hqk, hqt, hqd] at hq
              have HJ1 : Hid (∀ u, RFit u ax4 R4.recs.length qx4 bx4 R4.curs.length px4 R4.recs R4.curs → utabs u → Calls Tryz.prog 18 #[ringV R4.cap R4.first ax4 R4.recs.length qx4 bx4 R4.curs.length px4, .int .i64 y] u fun e w' => ∃ y1 y2 y3 y4 y5 y6 y7 y8 y9, e = .returned (ringOutV y1 y2 y3 y4 y5 y6 y7 y8 qk qt qd y9) ∧ Below u.heap.size u w') := fun u h hT => (impl_ringAt R4.recs R4.curs y u h hT).mono (fun e w' hh => by obtain ⟨a, q, b, p, he, _, hb⟩ := hh; rw [hq.1, hq.2.1, hq.2.2] at he; exact ⟨_, _, _, _, _, _, _, _, _, he, hb⟩)
              have HJ2 : Hid (∀ u, RFit u a4 n4 q4 b4 m4 p4 rs4 cs4 → Calls Tryz.prog 19 #[ringV C4 F4 a4 n4 q4 b4 m4 p4, .int .i64 y] u fun e w' => ∃ y1 y2 y3 y4 y5 y6 y7 y8 y9, e = .returned (ringOutV y1 y2 y3 y4 y5 y6 y7 y8 qk qt qd y9) ∧ Below u.heap.size u w') := fun u h => (spec_ringAt rs4 cs4 y u h).mono (fun e w' hh => by obtain ⟨a, q, b, p, he, _, hb⟩ := hh; rw [hqk, hqt, hqd] at he; exact ⟨_, _, _, _, _, _, _, _, _, he, hb⟩)
              clear hq hqk hqt hqd
              have hwy : IntKind.i64.wrap (y + 1) = y + 1 := i64_wrap_in _ (by omega) (by omega)
              have hfo := field_orec
              go_upto_region 23 with fail
              replace HWv : Hid (BW w v.drew z0 len0 z1 len1) := HWv.out.under ((Below.refl _ _).drew)
              replace HR1v : Hid (BR v.drew X1 C1 F1 a1 n1 q1 b1 m1 p1 rs1 cs1) := HR1v.out.under ((Below.refl _ _).drew)
              replace HKv : Hid (BK v.drew (X1 + 1) kk tt dd) := HKv.out.under ((Below.refl _ _).drew)
              replace HA1v : Hid (BA v.drew X2 R1 ax1 qx1 bx1 px1) := HA1v.out.under ((Below.refl _ _).drew)
              replace HR4v : Hid (BR v.drew X5 C4 F4 a4 n4 q4 b4 m4 p4 rs4 cs4) := HR4v.out.under ((Below.refl _ _).drew)
              replace HA4v : Hid (BA v.drew X6 R4 ax4 qx4 bx4 px4) := HA4v.out.under ((Below.refl _ _).drew)
              refine wp_region_held_drew (S := (fun u => (∀ o, u.cell? ⟨X5, o, none⟩ = (#[.int .i64 C4, .int .i64 F4, .slice a4 n4 q4, .slice b4 m4 p4] : Array Value)[o]?) ∧ (∀ o, u.cell? ⟨X6, o, none⟩ = (#[.int .i64 R4.cap, .int .i64 R4.first, .slice ax4 R4.recs.length qx4, .slice bx4 R4.curs.length px4, .int .i64 R4.k, .int .i64 R4.t, .string R4.d, .int .i64 R4.c] : Array Value)[o]?))) (by kernel_rfl) (⟨fun o => cell_of_block0 HR4v.out.box o, fun o => cell_of_block0 HA4v.out.box o⟩) (fun hHeld => ?_)
              refine wpAnyH_take (i := 0) (v := ?_) rfl (by kernel_rfl) (by kernel_rfl) (by kernel_rfl) (fun _ _ _ h => h) (Or.inl ⟨by rfl, ?_⟩) hHeld ?_
              rotate_left
              · intro wy hSw; (try dsimp only at hSw); go_simp; (try with_reducible rfl)
              try simp only [Act.put, List.getElem_toArray, List.getElem_cons_zero, List.getElem_cons_succ, List.setIfInBounds_toArray, List.set_cons_zero, List.set_cons_succ]
              refine wpAnyH_take (i := 1) (v := ?_) rfl (by kernel_rfl) (by kernel_rfl) (by kernel_rfl) (fun _ _ _ h => h) (Or.inl ⟨by rfl, ?_⟩) hHeld ?_
              rotate_left
              · intro wy hSw; (try dsimp only at hSw); go_simp; (try with_reducible rfl)
              try simp only [Act.put, List.getElem_toArray, List.getElem_cons_zero, List.getElem_cons_succ, List.setIfInBounds_toArray, List.set_cons_zero, List.set_cons_succ]
              refine wpAnyH_take (i := 2) (v := ?_) rfl (by kernel_rfl) (by kernel_rfl) (by kernel_rfl) (fun _ _ _ h => h) (Or.inl ⟨by rfl, ?_⟩) hHeld ?_
              rotate_left
              · intro wy hSw; (try dsimp only at hSw); go_simp; (try with_reducible rfl)
              try simp only [Act.put, List.getElem_toArray, List.getElem_cons_zero, List.getElem_cons_succ, List.setIfInBounds_toArray, List.set_cons_zero, List.set_cons_succ]
              refine wpAnyH_take (i := 5) (v := ?_) rfl (by kernel_rfl) (by kernel_rfl) (by kernel_rfl) (fun _ _ _ h => h) (Or.inl ⟨by rfl, ?_⟩) hHeld ?_
              rotate_left
              · intro wy hSw; (try dsimp only at hSw); go_simp; (try with_reducible rfl)
              try simp only [Act.put, List.getElem_toArray, List.getElem_cons_zero, List.getElem_cons_succ, List.setIfInBounds_toArray, List.set_cons_zero, List.set_cons_succ]
              refine wpAnyH_take (i := 6) (v := ?_) rfl (by kernel_rfl) (by kernel_rfl) (by kernel_rfl) (fun _ _ _ h => h) (Or.inl ⟨by rfl, ?_⟩) hHeld ?_
              rotate_left
              · intro wy hSw; (try dsimp only at hSw); go_simp; (try with_reducible rfl)
              try simp only [Act.put, List.getElem_toArray, List.getElem_cons_zero, List.getElem_cons_succ, List.setIfInBounds_toArray, List.set_cons_zero, List.set_cons_succ]
              refine wpAnyH_ready (rs := [3]) (by kernel_rfl) (by simp) ?_
              refine AllReadyH.cons rfl (fun K hK => ?_) AllReadyH.nil
              go_simp
              refine (HJ1.out _ HA4v.out.fit (utabs_below HT.out HWv.out.bel)).mono ?_; rintro x v1 ⟨y1, y2, y3, y4, y5, y6, y7, y8, y9, rfl, hby⟩; have HWv : Hid (BW w v1 z0 len0 z1 len1) := HWv.out.under hby; have HR1v : Hid (BR v1 X1 C1 F1 a1 n1 q1 b1 m1 p1 rs1 cs1) := HR1v.out.under hby; have HKv : Hid (BK v1 (X1 + 1) kk tt dd) := HKv.out.under hby; have HA1v : Hid (BA v1 X2 R1 ax1 qx1 bx1 px1) := HA1v.out.under hby; have HR4v : Hid (BR v1 X5 C4 F4 a4 n4 q4 b4 m4 p4 rs4 cs4) := HR4v.out.under hby; have HA4v : Hid (BA v1 X6 R4 ax4 qx4 bx4 px4) := HA4v.out.under hby; clear hby
              go_wp2_with fail
              refine hK.out _ _ ?_ (fun hHeld => ?_)
              · exact ⟨fun o => cell_of_block0 HR4v.out.box o, fun o => cell_of_block0 HA4v.out.box o⟩
              clear hK K
              try simp only [Act.put, List.getElem_toArray, List.getElem_cons_zero, List.getElem_cons_succ, List.setIfInBounds_toArray, List.set_cons_zero, List.set_cons_succ]
              refine wpAnyH_take (i := 4) (v := ?_) rfl (by kernel_rfl) (by kernel_rfl) (by kernel_rfl) (fun _ _ _ h => h) (Or.inl ⟨by rfl, ?_⟩) hHeld ?_
              rotate_left
              · intro wy hSw; (try dsimp only at hSw); go_simp; (try with_reducible rfl)
              try simp only [Act.put, List.getElem_toArray, List.getElem_cons_zero, List.getElem_cons_succ, List.setIfInBounds_toArray, List.set_cons_zero, List.set_cons_succ]
              refine wpAnyH_ready (rs := [7]) (by kernel_rfl) (by simp) ?_
              refine AllReadyH.cons rfl (fun K hK => ?_) AllReadyH.nil
              go_simp
              refine (HJ2.out _ HR4v.out.fit).mono ?_; rintro x v2 ⟨s1, s2, s3, s4, s5, s6, s7, s8, s9, rfl, hby⟩; have HWv : Hid (BW w v2 z0 len0 z1 len1) := HWv.out.under hby; have HR1v : Hid (BR v2 X1 C1 F1 a1 n1 q1 b1 m1 p1 rs1 cs1) := HR1v.out.under hby; have HKv : Hid (BK v2 (X1 + 1) kk tt dd) := HKv.out.under hby; have HA1v : Hid (BA v2 X2 R1 ax1 qx1 bx1 px1) := HA1v.out.under hby; have HR4v : Hid (BR v2 X5 C4 F4 a4 n4 q4 b4 m4 p4 rs4 cs4) := HR4v.out.under hby; have HA4v : Hid (BA v2 X6 R4 ax4 qx4 bx4 px4) := HA4v.out.under hby; clear hby
              go_wp2_with fail
              refine hK.out _ _ ?_ (fun hHeld => ?_)
              · exact ⟨fun o => cell_of_block0 HR4v.out.box o, fun o => cell_of_block0 HA4v.out.box o⟩
              clear hK K
              try simp only [Act.put, List.getElem_toArray, List.getElem_cons_zero, List.getElem_cons_succ, List.setIfInBounds_toArray, List.set_cons_zero, List.set_cons_succ]
              refine wpAnyH_take (i := 8) (v := ?_) rfl (by kernel_rfl) (by kernel_rfl) (by kernel_rfl) (fun _ _ _ h => h) (Or.inl ⟨by rfl, ?_⟩) hHeld ?_
              rotate_left
              · intro wy hSw; (try dsimp only at hSw); go_simp; (try with_reducible rfl)
              try simp only [Act.put, List.getElem_toArray, List.getElem_cons_zero, List.getElem_cons_succ, List.setIfInBounds_toArray, List.set_cons_zero, List.set_cons_succ]
              refine wpAnyH_take (i := 9) (v := ?_) rfl (by kernel_rfl) (by kernel_rfl) (by kernel_rfl) (fun _ _ _ h => h) (Or.inl ⟨by rfl, ?_⟩) hHeld ?_
              rotate_left
              · intro wy hSw; (try dsimp only at hSw); go_simp; (try with_reducible rfl)
              try simp only [Act.put, List.getElem_toArray, List.getElem_cons_zero, List.getElem_cons_succ, List.setIfInBounds_toArray, List.set_cons_zero, List.set_cons_succ]
              refine wpAnyH_done (by kernel_rfl) ?_ _
              have HYY : Hid (R4.first ≤ y ∧ y + 1 ≤ R4.first + (R4.recs.length : Int)) := ⟨by omega, by omega⟩
              clear hfo cA4 cR4 hHeld hF4 hL4 hM4 hend hlt2 hy1 hy2 HJ1 HJ2 HPP HE4
              go_wp2_with fail
              exact ⟨⟨y + 1, by go_num, by have := HYY.out; omega, by have := HYY.out; omega, HWv, HR1v, HKv, HA1v, HR4v, HA4v⟩, by simp [intOf]; have := HYY.out; omega⟩
            · go_wp2_with fail
              go_meet
              exact ⟨HWv, HR1v, HKv, HA1v⟩
  case rest =>
    as_aux_lemma =>
      obtain ⟨HWc, HR1c, HKc, HA1c⟩ := hcut
      replace HW : Hid (BW w wc z0 len0 z1 len1) := HWc
      replace HR1 : Hid (BR wc X1 C1 F1 a1 n1 q1 b1 m1 p1 rs1 cs1) := HR1c
      replace HK : Hid (BK wc (X1 + 1) kk tt dd) := HKc
      replace HA1 : Hid (BA wc X2 R1 ax1 qx1 bx1 px1) := HA1c
      clear HWc HR1c HKc HA1c
      clear cA1
      have cA1 := fun o => cell_of_block0 HA1.out.box o
      by_cases hc : R1.c = 0
      case neg =>
        have hcn : (R1.c != 0) = true := by simp [hc]
        clear hc
        go_wp2
        go_ret
        exact ⟨rfl, HW.out.bel⟩
      have hcn : (R1.c != 0) = false := by simp [hc]
      have hP := HP1.out hc
      obtain ⟨E1, hE1⟩ : ∃ E, endOf C1 F1 rs1 cs1 = E := ⟨_, rfl⟩
      obtain ⟨O1, hO1⟩ : ∃ E, roomOf C1 F1 rs1 cs1 = E := ⟨_, rfl⟩
      have hEb := end_bnd C1 F1 rs1 cs1
      have hOb := room_bnd C1 F1 rs1 cs1
      rw [hE1] at hP hEb
      rw [hO1] at hP hOb
      have HQ1 : Hid (∀ u, RIn u a1 n1 q1 b1 m1 p1 rs1 cs1 → Calls Tryz.prog 28 #[ringV C1 F1 a1 n1 q1 b1 m1 p1] u fun e w' => e = .returned (.int .i64 E1) ∧ Below u.heap.size u w') := fun u h => by rw [← hE1]; exact spec_ringEnd rs1 cs1 u h
      have HQ2 : Hid (∀ u, RIn u a1 n1 q1 b1 m1 p1 rs1 cs1 → Calls Tryz.prog 30 #[ringV C1 F1 a1 n1 q1 b1 m1 p1] u fun e w' => e = .returned (.int .i64 O1) ∧ Below u.heap.size u w') := fun u h => by rw [← hO1]; exact spec_ringRoom rs1 cs1 u h
      have HQ3 : Hid (∀ u, RFit u ax1 R1.recs.length qx1 bx1 R1.curs.length px1 R1.recs R1.curs → utabs u → Calls Tryz.prog 27 #[ringV R1.cap R1.first ax1 R1.recs.length qx1 bx1 R1.curs.length px1] u fun e w' => e = .returned (.int .i64 (E1 + 1)) ∧ Below u.heap.size u w') := fun u h hT => by rw [← hP.1]; exact impl_ringEnd R1.recs R1.curs u h.rin hT
      have HQ4 : Hid (∀ u, RFit u ax1 R1.recs.length qx1 bx1 R1.curs.length px1 R1.recs R1.curs → utabs u → Calls Tryz.prog 29 #[ringV R1.cap R1.first ax1 R1.recs.length qx1 bx1 R1.curs.length px1] u fun e w' => e = .returned (.int .i64 (O1 - 1)) ∧ Below u.heap.size u w') := fun u h hT => by rw [← hP.2.1]; exact impl_ringRoom R1.recs R1.curs u h.rin hT
      have HQ5 : Hid (∀ u, RFit u ax1 R1.recs.length qx1 bx1 R1.curs.length px1 R1.recs R1.curs → utabs u → Calls Tryz.prog 18 #[ringV R1.cap R1.first ax1 R1.recs.length qx1 bx1 R1.curs.length px1, .int .i64 E1] u fun e w' => ∃ y1 y2 y3 y4 y5 y6 y7 y8 y9, e = .returned (ringOutV y1 y2 y3 y4 y5 y6 y7 y8 kk tt dd y9) ∧ Below u.heap.size u w') := fun u h hT => (impl_ringAt R1.recs R1.curs E1 u h hT).mono (fun e w' hh => by obtain ⟨a, q, b, p, he, _, hb⟩ := hh; rw [hP.2.2.1, hP.2.2.2.1, hP.2.2.2.2] at he; exact ⟨_, _, _, _, _, _, _, _, _, he, hb⟩)
      clear hP hE1 hO1 hc HP1
      have e1 : (E1 + 1 == E1 + 1) = true := by simp
      have e2 : (O1 - 1 == O1 - 1) = true := by simp
      have w1e : IntKind.i64.wrap (E1 + 1) = E1 + 1 := i64_wrap_in _ (by omega) (by omega)
      have w2e : IntKind.i64.wrap (O1 - 1) = O1 - 1 := i64_wrap_in _ (by omega) (by omega)
      have hfo := field_orec
      go_upto_region 27 with fail
      replace HW : Hid (BW w wc.drew z0 len0 z1 len1) := HW.out.under ((Below.refl _ _).drew)
      replace HR1 : Hid (BR wc.drew X1 C1 F1 a1 n1 q1 b1 m1 p1 rs1 cs1) := HR1.out.under ((Below.refl _ _).drew)
      replace HK : Hid (BK wc.drew (X1 + 1) kk tt dd) := HK.out.under ((Below.refl _ _).drew)
      replace HA1 : Hid (BA wc.drew X2 R1 ax1 qx1 bx1 px1) := HA1.out.under ((Below.refl _ _).drew)
      go_region_held3 (fun u => (∀ o, u.cell? ⟨X1, o, none⟩ = (#[.int .i64 C1, .int .i64 F1, .slice a1 n1 q1, .slice b1 m1 p1] : Array Value)[o]?) ∧ (∀ o, u.cell? ⟨X1 + 1, o, none⟩ = (#[.int .i64 kk, .int .i64 tt, .string dd] : Array Value)[o]?) ∧ (∀ o, u.cell? ⟨X2, o, none⟩ = (#[.int .i64 R1.cap, .int .i64 R1.first, .slice ax1 R1.recs.length qx1, .slice bx1 R1.curs.length px1, .int .i64 R1.k, .int .i64 R1.t, .string R1.d, .int .i64 R1.c] : Array Value)[o]?)) (exact ⟨fun o => cell_of_block0 HR1.out.box o, fun o => cell_of_block0 HK.out.box o, fun o => cell_of_block0 HA1.out.box o⟩) (first | (go_at_call 28; refine (HQ1.out _ HR1.out.fit.rin).mono ?_; rintro x v1 ⟨rfl, hby⟩; have HW : Hid (BW w v1 z0 len0 z1 len1) := HW.out.under hby; have HR1 : Hid (BR v1 X1 C1 F1 a1 n1 q1 b1 m1 p1 rs1 cs1) := HR1.out.under hby; have HK : Hid (BK v1 (X1 + 1) kk tt dd) := HK.out.under hby; have HA1 : Hid (BA v1 X2 R1 ax1 qx1 bx1 px1) := HA1.out.under hby; clear hby) | (go_at_call 30; refine (HQ2.out _ HR1.out.fit.rin).mono ?_; rintro x v1 ⟨rfl, hby⟩; have HW : Hid (BW w v1 z0 len0 z1 len1) := HW.out.under hby; have HR1 : Hid (BR v1 X1 C1 F1 a1 n1 q1 b1 m1 p1 rs1 cs1) := HR1.out.under hby; have HK : Hid (BK v1 (X1 + 1) kk tt dd) := HK.out.under hby; have HA1 : Hid (BA v1 X2 R1 ax1 qx1 bx1 px1) := HA1.out.under hby; clear hby) | (go_at_call 27; refine (HQ3.out _ HA1.out.fit (utabs_below HT.out HW.out.bel)).mono ?_; rintro x v1 ⟨rfl, hby⟩; have HW : Hid (BW w v1 z0 len0 z1 len1) := HW.out.under hby; have HR1 : Hid (BR v1 X1 C1 F1 a1 n1 q1 b1 m1 p1 rs1 cs1) := HR1.out.under hby; have HK : Hid (BK v1 (X1 + 1) kk tt dd) := HK.out.under hby; have HA1 : Hid (BA v1 X2 R1 ax1 qx1 bx1 px1) := HA1.out.under hby; clear hby) | (go_at_call 29; refine (HQ4.out _ HA1.out.fit (utabs_below HT.out HW.out.bel)).mono ?_; rintro x v1 ⟨rfl, hby⟩; have HW : Hid (BW w v1 z0 len0 z1 len1) := HW.out.under hby; have HR1 : Hid (BR v1 X1 C1 F1 a1 n1 q1 b1 m1 p1 rs1 cs1) := HR1.out.under hby; have HK : Hid (BK v1 (X1 + 1) kk tt dd) := HK.out.under hby; have HA1 : Hid (BA v1 X2 R1 ax1 qx1 bx1 px1) := HA1.out.under hby; clear hby) | (go_at_call 18; refine (HQ5.out _ HA1.out.fit (utabs_below HT.out HW.out.bel)).mono ?_; rintro x v1 ⟨y1, y2, y3, y4, y5, y6, y7, y8, y9, rfl, hby⟩; have HW : Hid (BW w v1 z0 len0 z1 len1) := HW.out.under hby; have HR1 : Hid (BR v1 X1 C1 F1 a1 n1 q1 b1 m1 p1 rs1 cs1) := HR1.out.under hby; have HK : Hid (BK v1 (X1 + 1) kk tt dd) := HK.out.under hby; have HA1 : Hid (BA v1 X2 R1 ax1 qx1 bx1 px1) := HA1.out.under hby; clear hby))
      all_goals go_wp2
      all_goals go_ret
      all_goals exact ⟨rfl, HW.out.bel⟩
end Go.Proofs.YtbbaghlmialaoaaGreatDoor
