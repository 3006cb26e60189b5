import Derived.Test.YtdepaeajfldfbaaGreatDoorLawFab4
import Derived.Test.YtdepaeajfldfbaaGreatDoorSpecFab5
import Derived.Test.YtdepaeajfldfbaaGreatDoorFabSame
import Derived.Deep.RegionHeld3
import Derived.Deep.DrawnRows
import Derived.Test.YtdepaeajfldfbaaGreatDoorFabDoors
/- The law FnExactFabricRight, out of what the program answers. -/
namespace Go.Proofs.YtdepaeajfldfbaaGreatDoor
open Go.RowKit
attribute [local go_sem ↓] Go.wp_at_zero Go.wp_at_succ
set_option linter.unusedSimpArgs false
set_option linter.unusedVariables false

set_option maxRecDepth 100000 in
set_option maxHeartbeats 4000000 in
theorem law_fabRight_of (Pre : World → Prop) (hPre : ∀ u v, Below u.heap.size u v → Pre u → Pre v)
    (HI : ∀ (A C E rl el tl : Nat) (now : Int) (rs : List RD) (es : List Int) (ts : List TD) (w : World), FIn w (some ⟨A, 0, none⟩) rl (some ⟨C, 0, none⟩) el (some ⟨E, 0, none⟩) tl rs es ts → Pre w →
      Calls Tryz.prog 12 #[fabVal (some ⟨A, 0, none⟩) rl rl (some ⟨C, 0, none⟩) el el (some ⟨E, 0, none⟩) tl tl now] w fun x w' => x = .returned (.bool (fabRightB rs es ts now)) ∧ Below w.heap.size w w')
    (ra : Option Addr) (rl rc : Nat) (ea : Option Addr) (el ec : Nat) (ta : Option Addr) (tl tc : Nat) (now : Int) (rs : List RD) (es : List Int) (ts : List TD) (w : World) (hi : LFIn w ra rl ea el ta tl rs es ts) (hp : Pre w) :
    Calls Tryz.prog 3 #[fabVal ra rl rc ea el ec ta tl tc now] w fun x w' => x = .returned (.bool true) ∧ Below w.heap.size w w' := by
  have HII : Hid _ := HI
  have HPR : Hid (∀ u v, Below u.heap.size u v → Pre u → Pre v) := hPre
  have HP : Hid (Pre w) := hp
  have HL : Hid (LFIn w ra rl ea el ta tl rs es ts) := hi
  have HSA : Hid (∀ (rs1 rs2 : List RD) (ts1 ts2 : List TD), rs2.map RD.strip = rs1.map RD.strip → ts2.map TD.strip = ts1.map TD.strip → fabRightB rs2 es ts2 now = fabRightB rs1 es ts1 now) := fun rs1 rs2 ts1 ts2 hr ht => fab_same es now hr ht
  clear HI hPre hp hi
  have H0 : Hid (FB w (w.alloc (lfabO ra rl rc ea el ec ta tl tc now)) (lfabO ra rl rc ea el ec ta tl tc now)) := fb_new _ _ _
  go_enter Tryz.func3, Tryz.ntmps3
  go_wp2_with fail
  refine (law_szFab ra rl rc ea el ec ta tl tc now rs es ts _ (HL.out.below H0.out.bel)).mono ?_
  rintro x v1 ⟨z, rfl, hz, hb1⟩
  have H1 : Hid (FB w v1 (lfabO ra rl rc ea el ec ta tl tc now)) := H0.out.under hb1
  clear hb1 H0
  have c1 := fun o => fb_cell H1.out.box o
  rcases hz.out with rfl | ⟨y, rfl, hy, hsm⟩
  · go_wp2
    go_ret
    exact ⟨rfl, H1.out.bel⟩
  have HSM : Hid (FSmall rl el tl rs ts) := hsm
  clear hsm hz
  go_wp2_with fail
  refine (law_toFab ra rl rc ea el ec ta tl tc now rs es ts _ (HL.out.below H1.out.bel) HSM.out).mono ?_
  rintro x v2 ⟨A1, C1, E1, rs1, ts1, rfl, hf1, hr1, ht1, hb2⟩
  have H2 : Hid (FB w v2 (lfabO ra rl rc ea el ec ta tl tc now)) := H1.out.under hb2
  clear hb2 H1 c1
  go_wp2_with fail
  refine (spec_fabricRight _ rl rl _ el el _ tl tl now rs1 es ts1 _ hf1.out).mono ?_
  rintro x v3 ⟨rfl, hb3⟩
  have H3 : Hid (FB w v3 (lfabO ra rl rc ea el ec ta tl tc now)) := H2.out.under hb3
  clear hb3 H2 hf1
  obtain ⟨R, hR⟩ : ∃ R : Bool, fabRightB rs1 es ts1 now = R := ⟨_, rfl⟩
  have HR : Hid (fabRightB rs1 es ts1 now = R) := hR
  rw [hR]
  clear hR
  have c3 := fun o => fb_cell H3.out.box o
  go_wp2_with fail
  refine (law_toFab ra rl rc ea el ec ta tl tc now rs es ts _ (HL.out.below H3.out.bel) HSM.out).mono ?_
  rintro x v4 ⟨A2, C2, E2, rs2, ts2, rfl, hf2, hr2, ht2, hb4⟩
  have H4 : Hid (FB w (v4.alloc (fabO (some ⟨A2, 0, none⟩) rl rl (some ⟨C2, 0, none⟩) el el (some ⟨E2, 0, none⟩) tl tl now)) (lfabO ra rl rc ea el ec ta tl tc now)) := (H3.out.under hb4).under (fbelow_new _ _)
  have HF4 : Hid (FIn (v4.alloc (fabO (some ⟨A2, 0, none⟩) rl rl (some ⟨C2, 0, none⟩) el el (some ⟨E2, 0, none⟩) tl tl now)) (some ⟨A2, 0, none⟩) rl (some ⟨C2, 0, none⟩) el (some ⟨E2, 0, none⟩) tl rs2 es ts2) := hf2.out.below (fbelow_new _ _)
  have HX4 : Hid ((v4.alloc (fabO (some ⟨A2, 0, none⟩) rl rl (some ⟨C2, 0, none⟩) el el (some ⟨E2, 0, none⟩) tl tl now)).heap[v4.heap.size]? = some (fabO (some ⟨A2, 0, none⟩) rl rl (some ⟨C2, 0, none⟩) el el (some ⟨E2, 0, none⟩) tl tl now)) := heap_alloc_new _ _
  clear hb4 H3 hf2 c3
  go_wp2_with fail
  refine (HII.out A2 C2 E2 rl el tl now rs2 es ts2 _ HF4.out (HPR.out _ _ H4.out.bel HP.out)).mono ?_
  rintro x v5 ⟨rfl, hb5⟩
  have H5 : Hid (FB w v5 (lfabO ra rl rc ea el ec ta tl tc now)) := H4.out.under hb5
  have HF5 : Hid (FIn v5 (some ⟨A2, 0, none⟩) rl (some ⟨C2, 0, none⟩) el (some ⟨E2, 0, none⟩) tl rs2 es ts2) := HF4.out.below hb5
  have HX5 : Hid (v5.heap[v4.heap.size]? = some (fabO (some ⟨A2, 0, none⟩) rl rl (some ⟨C2, 0, none⟩) el el (some ⟨E2, 0, none⟩) tl tl now)) := (hb5.block _ (fb_lt HX4.out)).trans HX4.out
  clear hb5 H4 HF4 HX4
  rw [show fabRightB rs2 es ts2 now = R from (HSA.out rs1 rs2 ts1 ts2 (hr2.out.trans hr1.out.symm) (ht2.out.trans ht1.out.symm)).trans HR.out]
  obtain ⟨X, hX⟩ : ∃ X, v4.heap.size = X := ⟨_, rfl⟩
  rw [hX] at HX5 ⊢
  clear hX
  have hRR : (!(R == R)) = false := by simp
  have hRN : (R != R) = false := by simp
  go_upto_region 10 with fail
  have H6 : Hid (FB w v5.drew (lfabO ra rl rc ea el ec ta tl tc now)) := H5.out.under ((Below.refl _ _).drew)
  have HF6 : Hid (FIn v5.drew (some ⟨A2, 0, none⟩) rl (some ⟨C2, 0, none⟩) el (some ⟨E2, 0, none⟩) tl rs2 es ts2) := HF5.out.below ((Below.refl _ _).drew)
  have HX6 : Hid (v5.drew.heap[X]? = some (fabO (some ⟨A2, 0, none⟩) rl rl (some ⟨C2, 0, none⟩) el el (some ⟨E2, 0, none⟩) tl tl now)) := HX5.out
  clear H5 HF5 HX5
  refine wp_region_held_drew (S := (fun x => (∀ o, x.cell? ⟨w.heap.size, o, none⟩ = (#[.slice ra rl rc, .slice ea el ec, .slice ta tl tc, .int .i64 now] : Array Value)[o]?) ∧ (∀ o, x.cell? ⟨X, o, none⟩ = (#[.slice (some ⟨A2, 0, none⟩) rl rl, .slice (some ⟨C2, 0, none⟩) el el, .slice (some ⟨E2, 0, none⟩) tl tl, .int .i64 now] : Array Value)[o]?))) (by kernel_rfl) (⟨fun o => fb_cell H6.out.box o, fun o => fb_cell HX6.out o⟩) (fun hHeld => ?_)
  refine wpAnyH_take (i := 0) (v := ?_) rfl (by kernel_rfl) (by kernel_rfl) (by kernel_rfl) (fun _ _ _ h => h) (Or.inl ⟨by rfl, ?_⟩) hHeld ?_
  rotate_left
  · intro wy hSw; (try dsimp only at hSw); go_simp; (try with_reducible rfl)
  try simp only [Act.put, List.getElem_toArray, List.getElem_cons_zero, List.getElem_cons_succ, List.setIfInBounds_toArray, List.set_cons_zero, List.set_cons_succ]
  refine wpAnyH_take (i := 1) (v := ?_) rfl (by kernel_rfl) (by kernel_rfl) (by kernel_rfl) (fun _ _ _ h => h) (Or.inl ⟨by rfl, ?_⟩) hHeld ?_
  rotate_left
  · intro wy hSw; (try dsimp only at hSw); go_simp; (try with_reducible rfl)
  try simp only [Act.put, List.getElem_toArray, List.getElem_cons_zero, List.getElem_cons_succ, List.setIfInBounds_toArray, List.set_cons_zero, List.set_cons_succ]
  refine wpAnyH_ready (rs := [2]) (by kernel_rfl) (by simp) ?_
  refine AllReadyH.cons rfl (fun K hK => ?_) AllReadyH.nil
  go_simp
  refine (law_toFab ra rl rc ea el ec ta tl tc now rs es ts _ (HL.out.below H6.out.bel) HSM.out).mono ?_; rintro x v7 ⟨A3, C3, E3, rs3, ts3, rfl, hf3, hr3, ht3, hb7⟩; have H6 : Hid (FB w v7 (lfabO ra rl rc ea el ec ta tl tc now)) := H6.out.under hb7; have HF6 : Hid (FIn v7 (some ⟨A2, 0, none⟩) rl (some ⟨C2, 0, none⟩) el (some ⟨E2, 0, none⟩) tl rs2 es ts2) := HF6.out.below hb7; have HX6 : Hid (v7.heap[X]? = some (fabO (some ⟨A2, 0, none⟩) rl rl (some ⟨C2, 0, none⟩) el el (some ⟨E2, 0, none⟩) tl tl now)) := (hb7.block _ (fb_lt HX6.out)).trans HX6.out; clear hb7
  go_wp2_with fail
  refine hK.out _ _ ?_ (fun hHeld => ?_)
  · exact ⟨fun o => fb_cell H6.out.box o, fun o => fb_cell HX6.out o⟩
  clear hK K
  try simp only [Act.put, List.getElem_toArray, List.getElem_cons_zero, List.getElem_cons_succ, List.setIfInBounds_toArray, List.set_cons_zero, List.set_cons_succ]
  refine wpAnyH_ready (rs := [3]) (by kernel_rfl) (by simp) ?_
  refine AllReadyH.cons rfl (fun K hK => ?_) AllReadyH.nil
  go_simp
  refine (law_eqFabF _ rl rl _ el el _ tl tl _ rl _ el _ tl now rs2 rs3 es ts2 ts3 _ HF6.out hf3.out (hr2.out.trans hr3.out.symm) (ht2.out.trans ht3.out.symm)).mono ?_; rintro x v8 ⟨rfl, hb8⟩; have H6 : Hid (FB w v8 (lfabO ra rl rc ea el ec ta tl tc now)) := H6.out.under hb8; have HX6 : Hid (v8.heap[X]? = some (fabO (some ⟨A2, 0, none⟩) rl rl (some ⟨C2, 0, none⟩) el el (some ⟨E2, 0, none⟩) tl tl now)) := (hb8.block _ (fb_lt HX6.out)).trans HX6.out; clear hb8
  go_wp2_with fail
  refine hK.out _ _ ?_ (fun hHeld => ?_)
  · exact ⟨fun o => fb_cell H6.out.box o, fun o => fb_cell HX6.out o⟩
  clear hK K
  try simp only [Act.put, List.getElem_toArray, List.getElem_cons_zero, List.getElem_cons_succ, List.setIfInBounds_toArray, List.set_cons_zero, List.set_cons_succ]
  refine wpAnyH_take (i := 4) (v := ?_) rfl (by kernel_rfl) (by kernel_rfl) (by kernel_rfl) (fun _ _ _ h => h) (Or.inl ⟨by rfl, ?_⟩) hHeld ?_
  rotate_left
  · intro wy hSw; (try dsimp only at hSw); go_simp; (try with_reducible rfl)
  try simp only [Act.put, List.getElem_toArray, List.getElem_cons_zero, List.getElem_cons_succ, List.setIfInBounds_toArray, List.set_cons_zero, List.set_cons_succ]
  refine wpAnyH_done (by kernel_rfl) ?_ _
  go_wp2
  go_ret
  exact ⟨rfl, H6.out.bel⟩
end Go.Proofs.YtdepaeajfldfbaaGreatDoor
/- The law FnExactOpenOf, out of what the program answers. -/
namespace Go.Proofs.YtdepaeajfldfbaaGreatDoor
open Go.RowKit
attribute [local go_sem ↓] Go.wp_at_zero Go.wp_at_succ
set_option linter.unusedSimpArgs false
set_option linter.unusedVariables false

set_option maxRecDepth 100000 in
set_option maxHeartbeats 4000000 in
theorem law_openOf_of (Pre : World → Prop) (hPre : ∀ u v, Below u.heap.size u v → Pre u → Pre v)
    (HI : ∀ (A C E rl el tl : Nat) (now : Int) (n : Int) (rs : List RD) (es : List Int) (ts : List TD) (w : World), FIn w (some ⟨A, 0, none⟩) rl (some ⟨C, 0, none⟩) el (some ⟨E, 0, none⟩) tl rs es ts → Pre w → (-9223372036854775808 ≤ n ∧ n ≤ 9223372036854775807) →
      Calls Tryz.prog 15 #[fabVal (some ⟨A, 0, none⟩) rl rl (some ⟨C, 0, none⟩) el el (some ⟨E, 0, none⟩) tl tl now, .int .i64 n] w fun x w' => x = .returned (.int .i64 ((if fabRightB rs es ts now then (openOf ts n : Int) else 0))) ∧ Below w.heap.size w w')
    (ra : Option Addr) (rl rc : Nat) (ea : Option Addr) (el ec : Nat) (ta : Option Addr) (tl tc : Nat) (now : Int) (n : Int) (rs : List RD) (es : List Int) (ts : List TD) (w : World) (hi : LFIn w ra rl ea el ta tl rs es ts) (hw_n : -9223372036854775808 ≤ n ∧ n ≤ 9223372036854775807) (hp : Pre w) :
    Calls Tryz.prog 4 #[fabVal ra rl rc ea el ec ta tl tc now, .int .i64 n] w fun x w' => x = .returned (.bool true) ∧ Below w.heap.size w w' := by
  have HII : Hid _ := HI
  have HPR : Hid (∀ u v, Below u.heap.size u v → Pre u → Pre v) := hPre
  have HP : Hid (Pre w) := hp
  have HL : Hid (LFIn w ra rl ea el ta tl rs es ts) := hi
  have HSA : Hid (∀ (rs1 rs2 : List RD) (ts1 ts2 : List TD), rs2.map RD.strip = rs1.map RD.strip → ts2.map TD.strip = ts1.map TD.strip → (if fabRightB rs2 es ts2 now then (openOf ts2 n : Int) else 0) = (if fabRightB rs1 es ts1 now then (openOf ts1 n : Int) else 0)) := fun rs1 rs2 ts1 ts2 hr ht => by rw [fab_same es now hr ht, openOf_same n ht]
  clear HI hPre hp hi
  have H0 : Hid (FB w (w.alloc (lfabO ra rl rc ea el ec ta tl tc now)) (lfabO ra rl rc ea el ec ta tl tc now)) := fb_new _ _ _
  go_enter Tryz.func4, Tryz.ntmps4
  go_wp2_with fail
  refine (law_szFab ra rl rc ea el ec ta tl tc now rs es ts _ (HL.out.below H0.out.bel)).mono ?_
  rintro x v1 ⟨z, rfl, hz, hb1⟩
  have H1 : Hid (FB w v1 (lfabO ra rl rc ea el ec ta tl tc now)) := H0.out.under hb1
  clear hb1 H0
  have c1 := fun o => fb_cell H1.out.box o
  rcases hz.out with rfl | ⟨y, rfl, hy, hsm⟩
  · go_wp2
    go_ret
    exact ⟨rfl, H1.out.bel⟩
  have HSM : Hid (FSmall rl el tl rs ts) := hsm
  clear hsm hz
  go_wp2_with fail
  refine (law_toFab ra rl rc ea el ec ta tl tc now rs es ts _ (HL.out.below H1.out.bel) HSM.out).mono ?_
  rintro x v2 ⟨A1, C1, E1, rs1, ts1, rfl, hf1, hr1, ht1, hb2⟩
  have H2 : Hid (FB w v2 (lfabO ra rl rc ea el ec ta tl tc now)) := H1.out.under hb2
  clear hb2 H1 c1
  go_wp2_with fail
  refine (spec_openOf _ rl rl _ el el _ tl tl now n rs1 es ts1 _ hf1.out).mono ?_
  rintro x v3 ⟨rfl, hb3⟩
  have H3 : Hid (FB w v3 (lfabO ra rl rc ea el ec ta tl tc now)) := H2.out.under hb3
  clear hb3 H2 hf1
  obtain ⟨R, hR⟩ : ∃ R : Int, (if fabRightB rs1 es ts1 now then (openOf ts1 n : Int) else 0) = R := ⟨_, rfl⟩
  have HR : Hid ((if fabRightB rs1 es ts1 now then (openOf ts1 n : Int) else 0) = R) := hR
  rw [hR]
  clear hR
  have c3 := fun o => fb_cell H3.out.box o
  go_wp2_with fail
  refine (law_toFab ra rl rc ea el ec ta tl tc now rs es ts _ (HL.out.below H3.out.bel) HSM.out).mono ?_
  rintro x v4 ⟨A2, C2, E2, rs2, ts2, rfl, hf2, hr2, ht2, hb4⟩
  have H4 : Hid (FB w (v4.alloc (fabO (some ⟨A2, 0, none⟩) rl rl (some ⟨C2, 0, none⟩) el el (some ⟨E2, 0, none⟩) tl tl now)) (lfabO ra rl rc ea el ec ta tl tc now)) := (H3.out.under hb4).under (fbelow_new _ _)
  have HF4 : Hid (FIn (v4.alloc (fabO (some ⟨A2, 0, none⟩) rl rl (some ⟨C2, 0, none⟩) el el (some ⟨E2, 0, none⟩) tl tl now)) (some ⟨A2, 0, none⟩) rl (some ⟨C2, 0, none⟩) el (some ⟨E2, 0, none⟩) tl rs2 es ts2) := hf2.out.below (fbelow_new _ _)
  have HX4 : Hid ((v4.alloc (fabO (some ⟨A2, 0, none⟩) rl rl (some ⟨C2, 0, none⟩) el el (some ⟨E2, 0, none⟩) tl tl now)).heap[v4.heap.size]? = some (fabO (some ⟨A2, 0, none⟩) rl rl (some ⟨C2, 0, none⟩) el el (some ⟨E2, 0, none⟩) tl tl now)) := heap_alloc_new _ _
  clear hb4 H3 hf2 c3
  go_wp2_with fail
  refine (HII.out A2 C2 E2 rl el tl now n rs2 es ts2 _ HF4.out (HPR.out _ _ H4.out.bel HP.out) hw_n).mono ?_
  rintro x v5 ⟨rfl, hb5⟩
  have H5 : Hid (FB w v5 (lfabO ra rl rc ea el ec ta tl tc now)) := H4.out.under hb5
  have HF5 : Hid (FIn v5 (some ⟨A2, 0, none⟩) rl (some ⟨C2, 0, none⟩) el (some ⟨E2, 0, none⟩) tl rs2 es ts2) := HF4.out.below hb5
  have HX5 : Hid (v5.heap[v4.heap.size]? = some (fabO (some ⟨A2, 0, none⟩) rl rl (some ⟨C2, 0, none⟩) el el (some ⟨E2, 0, none⟩) tl tl now)) := (hb5.block _ (fb_lt HX4.out)).trans HX4.out
  clear hb5 H4 HF4 HX4
  rw [show (if fabRightB rs2 es ts2 now then (openOf ts2 n : Int) else 0) = R from (HSA.out rs1 rs2 ts1 ts2 (hr2.out.trans hr1.out.symm) (ht2.out.trans ht1.out.symm)).trans HR.out]
  obtain ⟨X, hX⟩ : ∃ X, v4.heap.size = X := ⟨_, rfl⟩
  rw [hX] at HX5 ⊢
  clear hX
  have hRR : (!(R == R)) = false := by simp
  have hRN : (R != R) = false := by simp
  go_upto_region 10 with fail
  have H6 : Hid (FB w v5.drew (lfabO ra rl rc ea el ec ta tl tc now)) := H5.out.under ((Below.refl _ _).drew)
  have HF6 : Hid (FIn v5.drew (some ⟨A2, 0, none⟩) rl (some ⟨C2, 0, none⟩) el (some ⟨E2, 0, none⟩) tl rs2 es ts2) := HF5.out.below ((Below.refl _ _).drew)
  have HX6 : Hid (v5.drew.heap[X]? = some (fabO (some ⟨A2, 0, none⟩) rl rl (some ⟨C2, 0, none⟩) el el (some ⟨E2, 0, none⟩) tl tl now)) := HX5.out
  clear H5 HF5 HX5
  refine wp_region_held_drew (S := (fun x => (∀ o, x.cell? ⟨w.heap.size, o, none⟩ = (#[.slice ra rl rc, .slice ea el ec, .slice ta tl tc, .int .i64 now] : Array Value)[o]?) ∧ (∀ o, x.cell? ⟨X, o, none⟩ = (#[.slice (some ⟨A2, 0, none⟩) rl rl, .slice (some ⟨C2, 0, none⟩) el el, .slice (some ⟨E2, 0, none⟩) tl tl, .int .i64 now] : Array Value)[o]?))) (by kernel_rfl) (⟨fun o => fb_cell H6.out.box o, fun o => fb_cell HX6.out o⟩) (fun hHeld => ?_)
  refine wpAnyH_take (i := 0) (v := ?_) rfl (by kernel_rfl) (by kernel_rfl) (by kernel_rfl) (fun _ _ _ h => h) (Or.inl ⟨by rfl, ?_⟩) hHeld ?_
  rotate_left
  · intro wy hSw; (try dsimp only at hSw); go_simp; (try with_reducible rfl)
  try simp only [Act.put, List.getElem_toArray, List.getElem_cons_zero, List.getElem_cons_succ, List.setIfInBounds_toArray, List.set_cons_zero, List.set_cons_succ]
  refine wpAnyH_take (i := 1) (v := ?_) rfl (by kernel_rfl) (by kernel_rfl) (by kernel_rfl) (fun _ _ _ h => h) (Or.inl ⟨by rfl, ?_⟩) hHeld ?_
  rotate_left
  · intro wy hSw; (try dsimp only at hSw); go_simp; (try with_reducible rfl)
  try simp only [Act.put, List.getElem_toArray, List.getElem_cons_zero, List.getElem_cons_succ, List.setIfInBounds_toArray, List.set_cons_zero, List.set_cons_succ]
  refine wpAnyH_ready (rs := [2]) (by kernel_rfl) (by simp) ?_
  refine AllReadyH.cons rfl (fun K hK => ?_) AllReadyH.nil
  go_simp
  refine (law_toFab ra rl rc ea el ec ta tl tc now rs es ts _ (HL.out.below H6.out.bel) HSM.out).mono ?_; rintro x v7 ⟨A3, C3, E3, rs3, ts3, rfl, hf3, hr3, ht3, hb7⟩; have H6 : Hid (FB w v7 (lfabO ra rl rc ea el ec ta tl tc now)) := H6.out.under hb7; have HF6 : Hid (FIn v7 (some ⟨A2, 0, none⟩) rl (some ⟨C2, 0, none⟩) el (some ⟨E2, 0, none⟩) tl rs2 es ts2) := HF6.out.below hb7; have HX6 : Hid (v7.heap[X]? = some (fabO (some ⟨A2, 0, none⟩) rl rl (some ⟨C2, 0, none⟩) el el (some ⟨E2, 0, none⟩) tl tl now)) := (hb7.block _ (fb_lt HX6.out)).trans HX6.out; clear hb7
  go_wp2_with fail
  refine hK.out _ _ ?_ (fun hHeld => ?_)
  · exact ⟨fun o => fb_cell H6.out.box o, fun o => fb_cell HX6.out o⟩
  clear hK K
  try simp only [Act.put, List.getElem_toArray, List.getElem_cons_zero, List.getElem_cons_succ, List.setIfInBounds_toArray, List.set_cons_zero, List.set_cons_succ]
  refine wpAnyH_ready (rs := [3]) (by kernel_rfl) (by simp) ?_
  refine AllReadyH.cons rfl (fun K hK => ?_) AllReadyH.nil
  go_simp
  refine (law_eqFabF _ rl rl _ el el _ tl tl _ rl _ el _ tl now rs2 rs3 es ts2 ts3 _ HF6.out hf3.out (hr2.out.trans hr3.out.symm) (ht2.out.trans ht3.out.symm)).mono ?_; rintro x v8 ⟨rfl, hb8⟩; have H6 : Hid (FB w v8 (lfabO ra rl rc ea el ec ta tl tc now)) := H6.out.under hb8; have HX6 : Hid (v8.heap[X]? = some (fabO (some ⟨A2, 0, none⟩) rl rl (some ⟨C2, 0, none⟩) el el (some ⟨E2, 0, none⟩) tl tl now)) := (hb8.block _ (fb_lt HX6.out)).trans HX6.out; clear hb8
  go_wp2_with fail
  refine hK.out _ _ ?_ (fun hHeld => ?_)
  · exact ⟨fun o => fb_cell H6.out.box o, fun o => fb_cell HX6.out o⟩
  clear hK K
  try simp only [Act.put, List.getElem_toArray, List.getElem_cons_zero, List.getElem_cons_succ, List.setIfInBounds_toArray, List.set_cons_zero, List.set_cons_succ]
  refine wpAnyH_take (i := 4) (v := ?_) rfl (by kernel_rfl) (by kernel_rfl) (by kernel_rfl) (fun _ _ _ h => h) (Or.inl ⟨by rfl, ?_⟩) hHeld ?_
  rotate_left
  · intro wy hSw; (try dsimp only at hSw); go_simp; (try with_reducible rfl)
  try simp only [Act.put, List.getElem_toArray, List.getElem_cons_zero, List.getElem_cons_succ, List.setIfInBounds_toArray, List.set_cons_zero, List.set_cons_succ]
  refine wpAnyH_done (by kernel_rfl) ?_ _
  go_wp2
  go_ret
  exact ⟨rfl, H6.out.bel⟩
end Go.Proofs.YtdepaeajfldfbaaGreatDoor
/- The law FnExactOwed, out of what the program answers. -/
namespace Go.Proofs.YtdepaeajfldfbaaGreatDoor
open Go.RowKit
attribute [local go_sem ↓] Go.wp_at_zero Go.wp_at_succ
set_option linter.unusedSimpArgs false
set_option linter.unusedVariables false

set_option maxRecDepth 100000 in
set_option maxHeartbeats 4000000 in
theorem law_owed_of (Pre : World → Prop) (hPre : ∀ u v, Below u.heap.size u v → Pre u → Pre v)
    (HI : ∀ (A C E rl el tl : Nat) (now : Int) (n : Int) (rs : List RD) (es : List Int) (ts : List TD) (w : World), FIn w (some ⟨A, 0, none⟩) rl (some ⟨C, 0, none⟩) el (some ⟨E, 0, none⟩) tl rs es ts → Pre w → (-9223372036854775808 ≤ n ∧ n ≤ 9223372036854775807) →
      Calls Tryz.prog 17 #[fabVal (some ⟨A, 0, none⟩) rl rl (some ⟨C, 0, none⟩) el el (some ⟨E, 0, none⟩) tl tl now, .int .i64 n] w fun x w' => x = .returned (.int .i64 ((if fabRightB rs es ts now && decide (0 ≤ n ∧ n ≤ (rl : Int) - 1) then (owedN ts n : Int) else 0))) ∧ Below w.heap.size w w')
    (ra : Option Addr) (rl rc : Nat) (ea : Option Addr) (el ec : Nat) (ta : Option Addr) (tl tc : Nat) (now : Int) (n : Int) (rs : List RD) (es : List Int) (ts : List TD) (w : World) (hi : LFIn w ra rl ea el ta tl rs es ts) (hw_n : -9223372036854775808 ≤ n ∧ n ≤ 9223372036854775807) (hp : Pre w) :
    Calls Tryz.prog 5 #[fabVal ra rl rc ea el ec ta tl tc now, .int .i64 n] w fun x w' => x = .returned (.bool true) ∧ Below w.heap.size w w' := by
  have HII : Hid _ := HI
  have HPR : Hid (∀ u v, Below u.heap.size u v → Pre u → Pre v) := hPre
  have HP : Hid (Pre w) := hp
  have HL : Hid (LFIn w ra rl ea el ta tl rs es ts) := hi
  have HSA : Hid (∀ (rs1 rs2 : List RD) (ts1 ts2 : List TD), rs2.map RD.strip = rs1.map RD.strip → ts2.map TD.strip = ts1.map TD.strip → (if fabRightB rs2 es ts2 now && decide (0 ≤ n ∧ n ≤ (rl : Int) - 1) then (owedN ts2 n : Int) else 0) = (if fabRightB rs1 es ts1 now && decide (0 ≤ n ∧ n ≤ (rl : Int) - 1) then (owedN ts1 n : Int) else 0)) := fun rs1 rs2 ts1 ts2 hr ht => by rw [fab_same es now hr ht, owed_same n ht]
  clear HI hPre hp hi
  have H0 : Hid (FB w (w.alloc (lfabO ra rl rc ea el ec ta tl tc now)) (lfabO ra rl rc ea el ec ta tl tc now)) := fb_new _ _ _
  go_enter Tryz.func5, Tryz.ntmps5
  go_wp2_with fail
  refine (law_szFab ra rl rc ea el ec ta tl tc now rs es ts _ (HL.out.below H0.out.bel)).mono ?_
  rintro x v1 ⟨z, rfl, hz, hb1⟩
  have H1 : Hid (FB w v1 (lfabO ra rl rc ea el ec ta tl tc now)) := H0.out.under hb1
  clear hb1 H0
  have c1 := fun o => fb_cell H1.out.box o
  rcases hz.out with rfl | ⟨y, rfl, hy, hsm⟩
  · go_wp2
    go_ret
    exact ⟨rfl, H1.out.bel⟩
  have HSM : Hid (FSmall rl el tl rs ts) := hsm
  clear hsm hz
  go_wp2_with fail
  refine (law_toFab ra rl rc ea el ec ta tl tc now rs es ts _ (HL.out.below H1.out.bel) HSM.out).mono ?_
  rintro x v2 ⟨A1, C1, E1, rs1, ts1, rfl, hf1, hr1, ht1, hb2⟩
  have H2 : Hid (FB w v2 (lfabO ra rl rc ea el ec ta tl tc now)) := H1.out.under hb2
  clear hb2 H1 c1
  go_wp2_with fail
  refine (spec_owed _ rl rl _ el el _ tl tl now n rs1 es ts1 _ hf1.out).mono ?_
  rintro x v3 ⟨rfl, hb3⟩
  have H3 : Hid (FB w v3 (lfabO ra rl rc ea el ec ta tl tc now)) := H2.out.under hb3
  clear hb3 H2 hf1
  obtain ⟨R, hR⟩ : ∃ R : Int, (if fabRightB rs1 es ts1 now && decide (0 ≤ n ∧ n ≤ (rl : Int) - 1) then (owedN ts1 n : Int) else 0) = R := ⟨_, rfl⟩
  have HR : Hid ((if fabRightB rs1 es ts1 now && decide (0 ≤ n ∧ n ≤ (rl : Int) - 1) then (owedN ts1 n : Int) else 0) = R) := hR
  rw [hR]
  clear hR
  have c3 := fun o => fb_cell H3.out.box o
  go_wp2_with fail
  refine (law_toFab ra rl rc ea el ec ta tl tc now rs es ts _ (HL.out.below H3.out.bel) HSM.out).mono ?_
  rintro x v4 ⟨A2, C2, E2, rs2, ts2, rfl, hf2, hr2, ht2, hb4⟩
  have H4 : Hid (FB w (v4.alloc (fabO (some ⟨A2, 0, none⟩) rl rl (some ⟨C2, 0, none⟩) el el (some ⟨E2, 0, none⟩) tl tl now)) (lfabO ra rl rc ea el ec ta tl tc now)) := (H3.out.under hb4).under (fbelow_new _ _)
  have HF4 : Hid (FIn (v4.alloc (fabO (some ⟨A2, 0, none⟩) rl rl (some ⟨C2, 0, none⟩) el el (some ⟨E2, 0, none⟩) tl tl now)) (some ⟨A2, 0, none⟩) rl (some ⟨C2, 0, none⟩) el (some ⟨E2, 0, none⟩) tl rs2 es ts2) := hf2.out.below (fbelow_new _ _)
  have HX4 : Hid ((v4.alloc (fabO (some ⟨A2, 0, none⟩) rl rl (some ⟨C2, 0, none⟩) el el (some ⟨E2, 0, none⟩) tl tl now)).heap[v4.heap.size]? = some (fabO (some ⟨A2, 0, none⟩) rl rl (some ⟨C2, 0, none⟩) el el (some ⟨E2, 0, none⟩) tl tl now)) := heap_alloc_new _ _
  clear hb4 H3 hf2 c3
  go_wp2_with fail
  refine (HII.out A2 C2 E2 rl el tl now n rs2 es ts2 _ HF4.out (HPR.out _ _ H4.out.bel HP.out) hw_n).mono ?_
  rintro x v5 ⟨rfl, hb5⟩
  have H5 : Hid (FB w v5 (lfabO ra rl rc ea el ec ta tl tc now)) := H4.out.under hb5
  have HF5 : Hid (FIn v5 (some ⟨A2, 0, none⟩) rl (some ⟨C2, 0, none⟩) el (some ⟨E2, 0, none⟩) tl rs2 es ts2) := HF4.out.below hb5
  have HX5 : Hid (v5.heap[v4.heap.size]? = some (fabO (some ⟨A2, 0, none⟩) rl rl (some ⟨C2, 0, none⟩) el el (some ⟨E2, 0, none⟩) tl tl now)) := (hb5.block _ (fb_lt HX4.out)).trans HX4.out
  clear hb5 H4 HF4 HX4
  rw [show (if fabRightB rs2 es ts2 now && decide (0 ≤ n ∧ n ≤ (rl : Int) - 1) then (owedN ts2 n : Int) else 0) = R from (HSA.out rs1 rs2 ts1 ts2 (hr2.out.trans hr1.out.symm) (ht2.out.trans ht1.out.symm)).trans HR.out]
  obtain ⟨X, hX⟩ : ∃ X, v4.heap.size = X := ⟨_, rfl⟩
  rw [hX] at HX5 ⊢
  clear hX
  have hRR : (!(R == R)) = false := by simp
  have hRN : (R != R) = false := by simp
  go_upto_region 10 with fail
  have H6 : Hid (FB w v5.drew (lfabO ra rl rc ea el ec ta tl tc now)) := H5.out.under ((Below.refl _ _).drew)
  have HF6 : Hid (FIn v5.drew (some ⟨A2, 0, none⟩) rl (some ⟨C2, 0, none⟩) el (some ⟨E2, 0, none⟩) tl rs2 es ts2) := HF5.out.below ((Below.refl _ _).drew)
  have HX6 : Hid (v5.drew.heap[X]? = some (fabO (some ⟨A2, 0, none⟩) rl rl (some ⟨C2, 0, none⟩) el el (some ⟨E2, 0, none⟩) tl tl now)) := HX5.out
  clear H5 HF5 HX5
  refine wp_region_held_drew (S := (fun x => (∀ o, x.cell? ⟨w.heap.size, o, none⟩ = (#[.slice ra rl rc, .slice ea el ec, .slice ta tl tc, .int .i64 now] : Array Value)[o]?) ∧ (∀ o, x.cell? ⟨X, o, none⟩ = (#[.slice (some ⟨A2, 0, none⟩) rl rl, .slice (some ⟨C2, 0, none⟩) el el, .slice (some ⟨E2, 0, none⟩) tl tl, .int .i64 now] : Array Value)[o]?))) (by kernel_rfl) (⟨fun o => fb_cell H6.out.box o, fun o => fb_cell HX6.out o⟩) (fun hHeld => ?_)
  refine wpAnyH_take (i := 0) (v := ?_) rfl (by kernel_rfl) (by kernel_rfl) (by kernel_rfl) (fun _ _ _ h => h) (Or.inl ⟨by rfl, ?_⟩) hHeld ?_
  rotate_left
  · intro wy hSw; (try dsimp only at hSw); go_simp; (try with_reducible rfl)
  try simp only [Act.put, List.getElem_toArray, List.getElem_cons_zero, List.getElem_cons_succ, List.setIfInBounds_toArray, List.set_cons_zero, List.set_cons_succ]
  refine wpAnyH_take (i := 1) (v := ?_) rfl (by kernel_rfl) (by kernel_rfl) (by kernel_rfl) (fun _ _ _ h => h) (Or.inl ⟨by rfl, ?_⟩) hHeld ?_
  rotate_left
  · intro wy hSw; (try dsimp only at hSw); go_simp; (try with_reducible rfl)
  try simp only [Act.put, List.getElem_toArray, List.getElem_cons_zero, List.getElem_cons_succ, List.setIfInBounds_toArray, List.set_cons_zero, List.set_cons_succ]
  refine wpAnyH_ready (rs := [2]) (by kernel_rfl) (by simp) ?_
  refine AllReadyH.cons rfl (fun K hK => ?_) AllReadyH.nil
  go_simp
  refine (law_toFab ra rl rc ea el ec ta tl tc now rs es ts _ (HL.out.below H6.out.bel) HSM.out).mono ?_; rintro x v7 ⟨A3, C3, E3, rs3, ts3, rfl, hf3, hr3, ht3, hb7⟩; have H6 : Hid (FB w v7 (lfabO ra rl rc ea el ec ta tl tc now)) := H6.out.under hb7; have HF6 : Hid (FIn v7 (some ⟨A2, 0, none⟩) rl (some ⟨C2, 0, none⟩) el (some ⟨E2, 0, none⟩) tl rs2 es ts2) := HF6.out.below hb7; have HX6 : Hid (v7.heap[X]? = some (fabO (some ⟨A2, 0, none⟩) rl rl (some ⟨C2, 0, none⟩) el el (some ⟨E2, 0, none⟩) tl tl now)) := (hb7.block _ (fb_lt HX6.out)).trans HX6.out; clear hb7
  go_wp2_with fail
  refine hK.out _ _ ?_ (fun hHeld => ?_)
  · exact ⟨fun o => fb_cell H6.out.box o, fun o => fb_cell HX6.out o⟩
  clear hK K
  try simp only [Act.put, List.getElem_toArray, List.getElem_cons_zero, List.getElem_cons_succ, List.setIfInBounds_toArray, List.set_cons_zero, List.set_cons_succ]
  refine wpAnyH_ready (rs := [3]) (by kernel_rfl) (by simp) ?_
  refine AllReadyH.cons rfl (fun K hK => ?_) AllReadyH.nil
  go_simp
  refine (law_eqFabF _ rl rl _ el el _ tl tl _ rl _ el _ tl now rs2 rs3 es ts2 ts3 _ HF6.out hf3.out (hr2.out.trans hr3.out.symm) (ht2.out.trans ht3.out.symm)).mono ?_; rintro x v8 ⟨rfl, hb8⟩; have H6 : Hid (FB w v8 (lfabO ra rl rc ea el ec ta tl tc now)) := H6.out.under hb8; have HX6 : Hid (v8.heap[X]? = some (fabO (some ⟨A2, 0, none⟩) rl rl (some ⟨C2, 0, none⟩) el el (some ⟨E2, 0, none⟩) tl tl now)) := (hb8.block _ (fb_lt HX6.out)).trans HX6.out; clear hb8
  go_wp2_with fail
  refine hK.out _ _ ?_ (fun hHeld => ?_)
  · exact ⟨fun o => fb_cell H6.out.box o, fun o => fb_cell HX6.out o⟩
  clear hK K
  try simp only [Act.put, List.getElem_toArray, List.getElem_cons_zero, List.getElem_cons_succ, List.setIfInBounds_toArray, List.set_cons_zero, List.set_cons_succ]
  refine wpAnyH_take (i := 4) (v := ?_) rfl (by kernel_rfl) (by kernel_rfl) (by kernel_rfl) (fun _ _ _ h => h) (Or.inl ⟨by rfl, ?_⟩) hHeld ?_
  rotate_left
  · intro wy hSw; (try dsimp only at hSw); go_simp; (try with_reducible rfl)
  try simp only [Act.put, List.getElem_toArray, List.getElem_cons_zero, List.getElem_cons_succ, List.setIfInBounds_toArray, List.set_cons_zero, List.set_cons_succ]
  refine wpAnyH_done (by kernel_rfl) ?_ _
  go_wp2
  go_ret
  exact ⟨rfl, H6.out.bel⟩
end Go.Proofs.YtdepaeajfldfbaaGreatDoor
/- The laws FnExactFabricRight, FnExactOpenOf, FnExactOwed, of both sides. -/
namespace Go.Proofs.YtdepaeajfldfbaaGreatDoor
open Go.RowKit
/-- A package-level variable holds an error. -/
def errAt (g : Nat) (w : World) : Prop := ∃ t y, w.cell? ⟨g, 0, none⟩ = some (.iface t y)
theorem errAt_below {g : Nat} {w w' : World} (h : errAt g w) (hb : Below w.heap.size w w') : errAt g w' := by
  obtain ⟨t, y, h⟩ := h
  exact ⟨t, y, cell_below h hb⟩
variable (ra : Option Addr) (rl rc : Nat) (ea : Option Addr) (el ec : Nat) (ta : Option Addr) (tl tc : Nat) (now : Int)
theorem law_fabRight (rs : List RD) (es : List Int) (ts : List TD) (w : World) (hi : LFIn w ra rl ea el ta tl rs es ts) (hp : utabs w ∧ errAt 0 w) :
    Calls Tryz.prog 3 #[fabVal ra rl rc ea el ec ta tl tc now] w fun x w' => x = .returned (.bool true) ∧ Below w.heap.size w w' :=
  law_fabRight_of (fun w => utabs w ∧ errAt 0 w) (fun u v hb h => ⟨utabs_below h.1 hb, errAt_below h.2 hb⟩)
    (fun A C E rl el tl now rs es ts w hi hp => impl_fabricRight _ rl rl _ el el _ tl tl now rs es ts w hi hp.1 hp.2 (fun e => by cases e) (fun e => by cases e) (fun e => by cases e)) ra rl rc ea el ec ta tl tc now rs es ts w hi hp
theorem law_openOf (n : Int) (rs : List RD) (es : List Int) (ts : List TD) (w : World) (hi : LFIn w ra rl ea el ta tl rs es ts) (hw_n : -9223372036854775808 ≤ n ∧ n ≤ 9223372036854775807) (hp : utabs w ∧ errAt 0 w ∧ errAt 1 w) :
    Calls Tryz.prog 4 #[fabVal ra rl rc ea el ec ta tl tc now, .int .i64 n] w fun x w' => x = .returned (.bool true) ∧ Below w.heap.size w w' :=
  law_openOf_of (fun w => utabs w ∧ errAt 0 w ∧ errAt 1 w) (fun u v hb h => ⟨utabs_below h.1 hb, errAt_below h.2.1 hb, errAt_below h.2.2 hb⟩)
    (fun A C E rl el tl now n rs es ts w hi hp hn => impl_OpenOf _ rl rl _ el el _ tl tl now n rs es ts w hi hp.1 hp.2.1 hp.2.2 hn (fun e => by cases e) (fun e => by cases e) (fun e => by cases e)) ra rl rc ea el ec ta tl tc now n rs es ts w hi hw_n hp
theorem law_owed (n : Int) (rs : List RD) (es : List Int) (ts : List TD) (w : World) (hi : LFIn w ra rl ea el ta tl rs es ts) (hw_n : -9223372036854775808 ≤ n ∧ n ≤ 9223372036854775807) (hp : utabs w ∧ errAt 0 w) :
    Calls Tryz.prog 5 #[fabVal ra rl rc ea el ec ta tl tc now, .int .i64 n] w fun x w' => x = .returned (.bool true) ∧ Below w.heap.size w w' :=
  law_owed_of (fun w => utabs w ∧ errAt 0 w) (fun u v hb h => ⟨utabs_below h.1 hb, errAt_below h.2 hb⟩)
    (fun A C E rl el tl now n rs es ts w hi hp _ => impl_Owed _ rl rl _ el el _ tl tl now n rs es ts w hi hp.1 hp.2 (fun e => by cases e) (fun e => by cases e) (fun e => by cases e)) ra rl rc ea el ec ta tl tc now n rs es ts w hi hw_n hp
end Go.Proofs.YtdepaeajfldfbaaGreatDoor
