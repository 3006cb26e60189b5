import Derived.ScopeJumps
namespace Go.Proofs.YtahccighonddaaaGreatDoor
def exitJumps (rest : Nat → Option Code) (J : Nat → Act → World → Prop) (Q : Exit → Act → World → Prop) : Exit → Act → World → Prop
  | .goto l,a,w => (rest l).isSome = true ∧ J l a w
  | e,a,w => Q e a w
theorem wp_scope_labels {P : Program} {a : Act} {w : World} {Q : Exit → Act → World → Prop} {c : Code} (rest : Nat → Option Code) (J : Nat → Act → World → Prop) (μ : Nat → Act → World → Nat)
    (hf : ∀ l r,rest l = some r → findLabel c l = some r) (first : c.wp P (exitJumps rest J Q) a w)
    (pass : ∀ l r a w,rest l = some r → J l a w → r.wp P (exitJumps rest (fun l' a' w' => J l' a' w' ∧ μ l' a' w' < μ l a w) Q) a w) : (Code.scope c).wp P Q a w := by
  intro b k cs
  have hg : ∀ l r,rest l = some r → gotoIn l (.inScope c :: k) = some (.code r :: .inScope c :: k) := fun l r h => by simp [gotoIn,hf l r h]
  have key : ∀ n l r a w,rest l = some r → μ l a w = n → J l a w → ∃ e a' w',Q e a' w' ∧ Arrives P (lone (b.at a (.code r :: .inScope c :: k)) cs w) b k cs e a' w' := by
    intro n
    induction n using Nat.strongRecOn with
    | _ n ih =>
      intro l r a w hr hn hJ
      obtain ⟨e,a₁,w₁,hq,harr⟩ := pass l r a w hr hJ b (.inScope c :: k) cs
      cases e with
      | normal => exact ⟨.normal,a₁,w₁,hq,Steps.trans harr (.one step_inScope)⟩
      | exit id => exact ⟨.exit id,a₁,w₁,hq,fun k' hk => harr k' (by simp [exitTo,hk])⟩
      | goto l' =>
        obtain ⟨hs,hJ',hlt⟩ := hq
        obtain ⟨r',hr'⟩ := Option.isSome_iff_exists.1 hs
        obtain ⟨e₂,a₂,w₂,hq₂,harr₂⟩ := ih _ (by omega) l' r' a₁ w₁ hr' rfl hJ'
        exact ⟨e₂,a₂,w₂,hq₂,.of_steps (harr _ (hg l' r' hr')) harr₂⟩
      | ret => exact ⟨_,a₁,w₁,hq,harr⟩
      | panic ch => exact ⟨_,a₁,w₁,hq,harr⟩
      | outgrown => exact ⟨_,a₁,w₁,hq,harr⟩
  obtain ⟨e,a₁,w₁,hq,harr⟩ := first b (.inScope c :: k) cs
  cases e with
  | normal => exact ⟨.normal,a₁,w₁,hq,.head step_scope (Steps.trans harr (.one step_inScope))⟩
  | exit id => exact ⟨.exit id,a₁,w₁,hq,fun k' hk => .head step_scope (harr k' (by simp [exitTo,hk]))⟩
  | goto l' =>
    obtain ⟨hs,hJ'⟩ := hq
    obtain ⟨r',hr'⟩ := Option.isSome_iff_exists.1 hs
    obtain ⟨e₂,a₂,w₂,hq₂,harr₂⟩ := key _ l' r' a₁ w₁ hr' rfl hJ'
    exact ⟨e₂,a₂,w₂,hq₂,.of_steps (.head step_scope (harr _ (hg l' r' hr'))) harr₂⟩
  | ret => exact ⟨_,a₁,w₁,hq,.of_steps (.one step_scope) harr⟩
  | panic ch => exact ⟨_,a₁,w₁,hq,.of_steps (.one step_scope) harr⟩
  | outgrown => exact ⟨_,a₁,w₁,hq,.of_steps (.one step_scope) harr⟩
end Go.Proofs.YtahccighonddaaaGreatDoor
