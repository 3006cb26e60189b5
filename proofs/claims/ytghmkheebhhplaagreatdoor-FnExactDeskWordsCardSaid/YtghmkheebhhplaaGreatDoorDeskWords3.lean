/- DeskWords of the program. -/
import Derived.Test.YtghmkheebhhplaaGreatDoorDeskWords2
namespace Go.Proofs.YtghmkheebhhplaaGreatDoor
open Go.RowKit
set_option linter.unusedSimpArgs false
set_option linter.unusedVariables false
theorem info_strD : (Tryz.prog.info? 9).map (fun i => (i.zero, i.size, i.bytes)) = some (some (.string ⟨#[]⟩), 1, 16) := by kernel_rfl
/-- The table at a place: the word, how many numbers, whether a text, what it does. -/
theorem task_at (k : Nat) (hk : k < 11) : ∃ (s : ByteArray) (n : Int) (b : Bool) (f : Nat), deskWords[k]? = some s ∧ s.size ≤ 1048576 ∧ ∀ W : World, (Instr.index 30 (.agg deskTasks.toArray) (.int .i64 (k : Int))).run Tryz.prog W = .ok (.agg #[.string s, .int .i64 n, .bool b, .func (.func f) #[] #[]]) W := by
  rcases (show k = 0 ∨ k = 1 ∨ k = 2 ∨ k = 3 ∨ k = 4 ∨ k = 5 ∨ k = 6 ∨ k = 7 ∨ k = 8 ∨ k = 9 ∨ k = 10 by omega) with rfl | rfl | rfl | rfl | rfl | rfl | rfl | rfl | rfl | rfl | rfl
  · exact ⟨⟨#[97, 98, 111, 114, 116]⟩, 2, false, 12, rfl, by decide, fun W => by kernel_rfl⟩
  · exact ⟨⟨#[98, 101, 103, 105, 110]⟩, 2, false, 13, rfl, by decide, fun W => by kernel_rfl⟩
  · exact ⟨⟨#[99, 111, 109, 109, 105, 116]⟩, 2, false, 14, rfl, by decide, fun W => by kernel_rfl⟩
  · exact ⟨⟨#[104, 101, 108, 112]⟩, 0, false, 15, rfl, by decide, fun W => by kernel_rfl⟩
  · exact ⟨⟨#[105, 110, 105, 116]⟩, 1, false, 16, rfl, by decide, fun W => by kernel_rfl⟩
  · exact ⟨⟨#[106, 111, 105, 110]⟩, 2, false, 17, rfl, by decide, fun W => by kernel_rfl⟩
  · exact ⟨⟨#[108, 101, 97, 118, 101]⟩, 2, false, 18, rfl, by decide, fun W => by kernel_rfl⟩
  · exact ⟨⟨#[108, 111, 111, 115, 101]⟩, 2, false, 19, rfl, by decide, fun W => by kernel_rfl⟩
  · exact ⟨⟨#[112, 111, 108, 108]⟩, 2, false, 20, rfl, by decide, fun W => by kernel_rfl⟩
  · exact ⟨⟨#[115, 101, 110, 100]⟩, 3, true, 21, rfl, by decide, fun W => by kernel_rfl⟩
  · exact ⟨⟨#[116, 105, 99, 107]⟩, 1, false, 22, rfl, by decide, fun W => by kernel_rfl⟩
set_option maxRecDepth 100000 in
set_option maxHeartbeats 1000000 in
theorem impl_DeskWords (w : World) : Calls Tryz.prog 5 #[] w fun x w' => ∃ a c, x = .returned (.slice a 11 c) ∧ w'.ownsRow w.heap.size 9 1 (.slice a 11 c) 11 (deskWords.map Value.string) ∧ Below w.heap.size w w' := by
  obtain ⟨C, hC⟩ : ∃ C, deskTasks.toArray = C := ⟨_, rfl⟩
  have HT : Hid _ := impl_tasks w
  rw [hC] at HT
  have HC : Hid (deskTasks.toArray = C) := hC
  clear hC
  obtain ⟨i0, hi0, hz0, hz1, hz2⟩ := info_parts info_strD
  go_enter Tryz.func5, Tryz.ntmps5
  go_wp2_with fail
  refine Calls.mono HT.out ?_
  rintro x w1 ⟨rfl, hb1⟩
  have HB1 : Hid (Below w.heap.size w w1) := hb1
  clear hb1 HT
  go_wp2
  go_loopw [1, 5] (fun s i wr => ∃ (k : Nat) (a : Option Addr) (c : Nat), k ≤ 11 ∧ i = .int .i64 k ∧ s = .slice a k c ∧ Hid (wr.ownsRow w.heap.size 9 1 (.slice a k c) k ((deskWords.take k).map Value.string)) ∧ Hid (Below w.heap.size w wr)) (fun _ i _ => 11 - (intOf i).toNat)
  case atStart => exact ⟨0, none, 0, by omega, rfl, rfl, World.ownsRow_nil _ _ _ _, HB1.out⟩
  case round =>
    obtain ⟨k, a, c, hk, rfl, rfl, ho, hb⟩ := hrel
    by_cases hlt : k < 11
    · have hki : (k : Int) < 11 := by omega
      obtain ⟨s, n, b, f, hs, hz, hix⟩ := task_at k hlt
      rw [HC.out] at hix
      have HS : Hid (deskWords[k]? = some s) := hs
      have HZ : Hid (s.size ≤ 1048576) := hz
      clear hs hz
      have HCP : Hid _ := fun w => impl_copyText s w HZ.out
      go_wp2_with fail
      refine Calls.mono (HCP.out _) ?_
      rintro x w2 ⟨rfl, hb2⟩
      have HB2 : Hid (Below w.heap.size w w2) := below_tr (hb.out.alloc hb.out.size _) hb2
      have HO2 : Hid (w2.ownsRow w.heap.size 9 1 (.slice a k c) k ((deskWords.take k).map Value.string)) := (ho.out.alloc _).kept (below_grown hb2) (by by_cases hh : (Value.slice a k c).ownBlock = none; exact .inl hh; exact .inr hh)
      clear hb2 HCP
      go_wp2_with (at_builtin; refine wpList_append_own_any (by rfl) _ _ _ (by rfl) w.heap.size 9 i0 _ 1 16 Tryz.underlying22 hi0 hz0 hz1 hz2 (by rfl) (by omega) (.slice a k c) k _ (by rfl) (HO2.out.alloc _) (some ⟨w2.heap.size, 0, none⟩) 1 1 [.string s] (by rfl) (by rfl) (fun e' => by cases e') (fun ad e' => by cases e'; exact World.news_of_block (cs := #[.string s]) (t := 9) (fr := (0, 0)) (heap_alloc_new _ _)) (by simp [Value.oneCell']) (by unfold maxLen; omega) (by omega) (by have := HB2.out.size; simp; omega) ?_; intro v3 w3 ho3 hg3; have HO3 : Hid _ := ho3; have HG3 : Hid _ := hg3; clear ho3 hg3)
      have hb3 : Below w.heap.size w w3 := (HB2.out.alloc HB2.out.size _).grown HG3.out (by have := HB2.out.size; simp; omega) (fun i e => (HO2.out.lt i e).1)
      have ho3 : w3.ownsRow w.heap.size 9 1 v3 (k + 1) ((deskWords.take (k + 1)).map Value.string) := by
        have he : (deskWords.take (k + 1)).map Value.string = (deskWords.take k).map Value.string ++ [.string s] := by rw [List.take_add_one, HS.out]; simp
        rw [he]
        exact HO3.out
      have hv3 : ∃ a3 c3, v3 = .slice a3 (k + 1) c3 := by
        rcases ho3.2 with ⟨_, h0⟩ | ⟨g, cap, cur, e, _⟩
        · omega
        · exact ⟨_, _, e⟩
      obtain ⟨a3, c3, rfl⟩ := hv3
      exact ⟨⟨k + 1, a3, c3, by omega, by go_num, rfl, ho3, hb3⟩, by simp [intOf]; omega⟩
    · obtain rfl : k = 11 := by omega
      go_wp2
      go_ret
      exact ⟨a, c, rfl, by have h := ho.out; rwa [show deskWords.take 11 = deskWords from rfl] at h, hb.out⟩
end Go.Proofs.YtghmkheebhhplaaGreatDoor
