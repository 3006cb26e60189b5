/- FabricNew of the specification. -/
import Derived.Test.YtopbfjdjlgecpaaFabNew
namespace Go.Proofs.Ytopbfjdjlgecpaa
open Go.RowKit
theorem info_ring : (Try.prog.info? 36).map (fun i => (i.zero, i.size, i.bytes)) = some (some (.agg #[.int .i64 0, .int .i64 0, .slice none 0 0, .slice none 0 0]), 4, 64) := by kernel_rfl
/-- How a call to make one ends. -/
def NewRes (w w' : World) (e : Ending) (rings most : Int) : Prop :=
  (fabOk rings most = false ∧ e = .returned (fabIll 1) ∧ Below w.heap.size w w') ∨ (fabOk rings most = true ∧ NewAns w w' e most rings.toNat)
abbrev rOutObj (C D : Int) : Obj := .cells #[.int .i64 C, .int .i64 0, .slice none 0 0, .slice none 0 0, .int .i64 0, .int .i64 0, .string ⟨#[]⟩, .int .i64 D] 40 (0, 0)
abbrev fabOut0 : Obj := fabOutObj none 0 0 none 0 0 none 0 0 0 0 0
theorem fblk_new {u v : World} {i : Nat} {o o' : Obj} (h : u.heap[i]? = some o) (hb : Below u.heap.size u v) : (v.alloc o').heap[i]? = some o := fblk h (below_tr hb ((Below.refl _ _).alloc (Nat.le_refl _) _))
set_option maxRecDepth 100000 in
set_option maxHeartbeats 2000000 in
theorem spec_fabricNew (rings most : Int) (w : World) :
    Calls Try.prog 4 #[.int .i64 rings, .int .i64 most] w fun e w' => NewRes w w' e rings most := by
  obtain ⟨i0, hi0, hz0, hz1, hz2⟩ := info_parts info_ring
  have HB0 : Hid (Below w.heap.size w (w.alloc fabOut0)) := (Below.refl _ _).alloc (Nat.le_refl _) _
  have HIS : Hid _ := fun w => spec_fis rings 1 4 w
  have HN : Hid (∀ w, Calls Try.prog 9 #[.int .i64 most] w fun e w' => e = .returned (newOut most) ∧ Below w.heap.size w w') := fun w => spec_ringNew most w
  obtain ⟨T, hT⟩ : ∃ T, decide (1 ≤ rings ∧ rings ≤ 4) = T := ⟨_, rfl⟩
  rw [hT] at HIS
  by_cases hok : fabOk rings most = true
  · have hT1 : T = true := by rw [← hT]; simp only [fabOk, Bool.and_eq_true] at hok; exact hok.1
    have hcp : capB most = true := by simp only [fabOk, Bool.and_eq_true] at hok; exact hok.2
    have hr := of_decide_eq_true (hT.trans hT1)
    subst hT1
    obtain ⟨n, hn⟩ : ∃ n : Nat, rings = (n : Int) := ⟨rings.toNat, by omega⟩
    subst hn
    rw [show newOut most = ringOutV most 0 none 0 0 none 0 0 0 0 ⟨#[]⟩ 0 by simp [newOut, newCap, newCode, hcp]] at HN
    have HE : Hid (fabOk (n : Int) most = true) := hok
    clear hT hok hcp
    go_enter Try.func4, Try.ntmps4
    go_wp2_with fail
    refine (HN.out _).mono ?_
    rintro e w1 ⟨rfl, hb1⟩
    have HS : Hid _ := FW.start (most := most) hb1
    have hcR : ∀ o, (w1.alloc (rOutObj most 0)).cell? ⟨w1.heap.size, o, none⟩ = _ := fun o => fcell (heap_alloc_new w1 (rOutObj most 0)) o
    clear hb1
    go_wp2_with fail
    refine (HIS.out _).mono ?_
    rintro e w2 ⟨rfl, hw2⟩
    rw [hw2]
    clear hw2 w2
    go_wp2
    go_loopw [7] (fun i wr => ∃ (k q : Nat) (a : Option Addr), k ≤ n ∧ i = .int .i64 k ∧ Hid (FW w wr w1.heap.size (w1.heap.size + 1) (w1.heap.size + 1 + 1) most a k q)) (fun i _ => n - (intOf i).toNat)
    case atStart => exact ⟨0, 0, none, by omega, rfl, HS.out⟩
    case round =>
      obtain ⟨k, q, a, hk, rfl, hf⟩ := hrel
      have c1 := fun o => fcell hf.out.b1 o
      have c3 := fun o => fcell hf.out.b3 o
      by_cases hlt : k < n
      · go_wp2_with (at_builtin; refine wpList_append_own_any (by rfl) _ _ _ (by rfl) (w1.heap.size + 1 + 1 + 1) 36 i0 _ 4 64 Try.underlying22 hi0 hz0 hz1 hz2 (by rfl) (by omega) (.slice a k q) k _ (by rfl) (hf.out.own.alloc _) (some ⟨wr.heap.size, 0, none⟩) 1 1 (nilRing most) (by rfl) (by rfl) (fun e => by cases e) (fun ad e => by cases e; exact World.news_of_block (cs := #[.int .i64 most, .int .i64 0, .slice none 0 0, .slice none 0 0]) (t := 36) (fr := (0, 0)) (heap_alloc_new _ _)) (by simp [Value.oneCell']) (by unfold maxLen; omega) (by omega) (by have := fblk_lt hf.out.b3; simp; omega) ?_; intro v2 w3 ho3 hg3; obtain ⟨a3, c3', rfl⟩ := own_ringV ho3; have hst := hf.out.app ho3 hg3; have hc3 := hst.1; have hf3 := hst.2.1; have HST : Hid _ := hst.2.2; clear ho3 hg3 hst)
        exact ⟨⟨k + 1, c3', a3, by omega, by go_num, HST.out⟩, by simp [intOf]; omega⟩
      · obtain rfl : k = n := by omega
        have c0 := fun o => fcell hf.out.b0 o
        have f0 := fun o => ffree hf.out.b0 o
        go_wp2
        refine bodyPost_ret (v := fabOutV a k q (some ⟨w1.heap.size + 1, 0, none⟩) 4 4 none 0 0 0 0 0) (by simp [results, Try.results4, go_sem, c0]) rfl (.inr ⟨HE.out, ?_⟩)
        rw [Int.toNat_natCast]
        exact hf.out.ans _ _ _ _ _ _
  · have HE : Hid (fabOk rings most = false) := show _ = _ by simpa using hok
    have hcd : T = true → newCode most = 1 := fun h => by
      have h2 : capB most = false := by
        cases hc : capB most
        · rfl
        · exact absurd (by simp [fabOk, hT, h, hc]) hok
      simp [newCode, h2]
    clear hok hT
    rw [show newOut most = ringOutV (newCap most) 0 none 0 0 none 0 0 0 0 ⟨#[]⟩ (newCode most) from rfl] at HN
    obtain ⟨C, hC⟩ : ∃ C, newCap most = C := ⟨_, rfl⟩
    obtain ⟨D, hD⟩ : ∃ D, newCode most = D := ⟨_, rfl⟩
    rw [hC, hD] at HN
    rw [hD] at hcd
    clear hC hD
    go_enter Try.func4, Try.ntmps4
    go_wp2_with fail
    refine (HN.out _).mono ?_
    rintro e w1 ⟨rfl, hb1⟩
    have HR1 : Hid ((w1.alloc (rOutObj C D)).heap[w.heap.size]? = some fabOut0) := fblk_new (heap_alloc_new _ _) hb1
    have HB1 : Hid (Below w.heap.size w (w1.alloc (rOutObj C D))) := below_tr (below_tr HB0.out hb1) ((Below.refl _ _).alloc (Nat.le_refl _) _)
    have hcR : ∀ o, (w1.alloc (rOutObj C D)).cell? ⟨w1.heap.size, o, none⟩ = _ := fun o => fcell (heap_alloc_new w1 (rOutObj C D)) o
    clear hb1
    go_wp2_with fail
    refine (HIS.out _).mono ?_
    rintro e w2 ⟨rfl, hw2⟩
    rw [hw2]
    clear hw2 w2
    cases T
    · go_wp2_with fail
      refine (spec_fill 1 _).mono ?_
      rintro e w3 ⟨rfl, hb3⟩
      have c3 := fun o => fcell (fblk HR1.out hb3) o
      have f3 := fun o => ffree (fblk HR1.out hb3) o
      have HB3 : Hid (Below w.heap.size w w3) := below_tr HB1.out hb3
      clear hb3
      go_wp2
      exact bodyPost_ret (v := fabIll 1) (by simp [results, Try.results4, go_sem, c3]) rfl (.inl ⟨HE.out, rfl, below_fset6 HB3.out _ (Nat.le_refl _) _ _ _ _ _ _⟩)
    · obtain rfl := hcd rfl
      go_wp2_with fail
      refine (spec_fill 1 _).mono ?_
      rintro e w3 ⟨rfl, hb3⟩
      have c3 := fun o => fcell (fblk HR1.out hb3) o
      have f3 := fun o => ffree (fblk HR1.out hb3) o
      have HB3 : Hid (Below w.heap.size w w3) := below_tr HB1.out hb3
      clear hb3
      go_wp2
      exact bodyPost_ret (v := fabIll 1) (by simp [results, Try.results4, go_sem, c3]) rfl (.inl ⟨HE.out, rfl, below_fset6 HB3.out _ (Nat.le_refl _) _ _ _ _ _ _⟩)
end Go.Proofs.Ytopbfjdjlgecpaa
