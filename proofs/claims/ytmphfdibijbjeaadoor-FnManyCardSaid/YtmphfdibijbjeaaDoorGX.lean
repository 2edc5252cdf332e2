/- A region that draws its order and whose last operation turns what the others read: all others are bound ahead of it. Nothing of one program. -/
import Derived.Conc.CompanyMem
namespace Go.Proofs.YtmphfdibijbjeaaDoor
open Go.Conc
set_option linter.unusedVariables false
set_option maxRecDepth 100000
set_option linter.unusedSectionVars false
section
variable {P : Program} {main : Bool} {R : World → World → Prop} {D : World → World → Array Event → Prop} {fn : FuncId} {md : Region.Mode} {ops : Array Oper} {Q : Exit → Act → World → Prop} {S : World → Prop} {x : Nat}
/-- whatever order is picked from here on: S holds behind every operation but x -/
def AnyX (P : Program) (R : World → World → Prop) (D : World → World → Array Event → Prop) (fn : FuncId) (md : Region.Mode) (ops : Array Oper) (Q : Exit → Act → World → Prop) (S : World → Prop) (x : Nat) : Nat → Array Bool → Act → World → Prop
  | 0, done, a, w => Region.ready md ops done = [] ∧ Q .normal a w
  | fuel + 1, done, a, w => (Region.ready md ops done = [] → Q .normal a w) ∧ ∀ i ∈ Region.ready md ops done, OpC P R D fn ops i (fun a' w' => (i ≠ x → S w') ∧ AnyX P R D fn md ops Q S x fuel (done.setIfInBounds i true) a' w') a w
theorem opC_rely (T : Terms R D) {i : Nat} {a : Act} {w w₁ : World} {K : Act → World → Prop} (hK : ∀ a x y, K a x → R x y → K a y) (h : OpC P R D fn ops i K a w) (r : R w w₁) : OpC P R D fn ops i K a w₁ := by
  unfold OpC at h ⊢
  cases ho : ops[i]? with
  | none => rw [ho] at h; exact h
  | some o =>
    rw [ho] at h
    by_cases hw : Region.wanted o (yielded ops a.tmps) = true
    · simp only [hw, if_true] at h ⊢
      exact fun w₂ h₂ => h w₂ (T.trans _ _ _ r h₂)
    · simp only [hw] at h ⊢
      exact hK _ _ _ h r
theorem AnyX.rely (T : Terms R D) (hSR : ∀ x y, S x → R x y → S y) (hQR : ∀ a x y, Q .normal a x → R x y → Q .normal a y) (fuel : Nat) :
    ∀ (done : Array Bool) (a : Act) (w w₁ : World), AnyX P R D fn md ops Q S x fuel done a w → R w w₁ → AnyX P R D fn md ops Q S x fuel done a w₁ := by
  induction fuel with
  | zero => exact fun done a w w₁ h r => ⟨h.1, hQR _ _ _ h.2 r⟩
  | succ fuel ih => exact fun done a w w₁ h r => ⟨fun e => hQR _ _ _ (h.1 e) r, fun i hi => opC_rely T (fun a x y h r => ⟨fun hx => hSR _ _ (h.1 hx) r, ih _ _ _ _ h.2 r⟩) (h.2 i hi) r⟩
theorem anyX_sound (T : Terms R D) : ∀ (fuel t : Nat) (done : Array Bool) (a : Act) (w : World), AnyX P R D fn md ops Q S x fuel done a w →
    OpsC P main R D fn ops (Region.linearise.go md ops fuel t done []) (fuel + 1) Q a w := by
  intro fuel
  induction fuel with
  | zero => intro t done a w h; simpa [Region.linearise.go] using opsC_nil T h.2
  | succ fuel ih =>
    intro t done a w h
    simp only [Region.linearise.go]
    change OpsC P main R D fn ops (match (Region.ready md ops done)[t % (Region.ready md ops done).length]? with
      | some i => Region.linearise.go md ops fuel (t / (Region.ready md ops done).length) (done.setIfInBounds i true) [i]
      | none => [].reverse) (fuel + 1 + 1) Q a w
    cases hr : Region.ready md ops done with
    | nil => exact opsC_more (by simpa using opsC_nil T (h.1 hr)) (by omega)
    | cons y ys =>
      have hlt : t % (y :: ys).length < (y :: ys).length := Nat.mod_lt _ (by simp)
      have hm : (y :: ys)[t % (y :: ys).length] ∈ Region.ready md ops done := by rw [hr]; exact List.getElem_mem hlt
      rw [List.getElem?_eq_getElem hlt]
      simp only []
      rw [linearise_go_acc, List.reverse_singleton, List.singleton_append]
      exact opsC_of_opC T (OpC_mono (fun a' w' q => ih _ _ a' w' q.2) (h.2 _ hm))
theorem anyX_first (T : Terms R D) (hSR : ∀ x y, S x → R x y → S y) (hQR : ∀ a x y, Q .normal a x → R x y → Q .normal a y) {i : Nat} {oi : Oper} {v : Value} (hi : ops[i]? = some oi)
    (hsel : ∀ (j : Nat) (o : Oper) cs b, ops[j]? = some o → o.op ≠ .select cs b) (hx : ∀ ox, ops[x]? = some ox → ∃ e ∈ ox.after, Region.binds md e = true ∧ e.on = i) (fuel : Nat) :
    ∀ (done : Array Bool) (a : Act) (w : World),
      (∀ j oj, ops[j]? = some oj → j ≠ i → done.getD j true = false → (∀ e ∈ oj.after, Region.binds md e = true → e.on ≠ i) → oi.apart ops oj = true) →
      i ∈ Region.ready md ops done → YieldsIfC P D fn ops S oi v a → S w →
      AnyX P R D fn md ops Q S x fuel (done.setIfInBounds i true) (a.put oi.dst v) w → AnyX P R D fn md ops Q S x (fuel + 1) done a w := by
  have wait : ∀ (done : Array Bool), i ∈ Region.ready md ops done → ∀ j oj, j ∈ Region.ready md ops done → ops[j]? = some oj → ∀ e ∈ oj.after, Region.binds md e = true → e.on ≠ i := by
    intro done hr j oj hj hoj e he hb heq
    obtain ⟨_, oj', hoj', hall⟩ := mem_ready.1 hj
    obtain rfl : oj' = oj := Option.some.inj (hoj'.symm.trans hoj)
    have h1 := hall e he hb
    have h0 := (mem_ready.1 hr).1
    rw [heq] at h1
    rcases Nat.lt_or_ge i done.size with h' | h'
    · simp [h'] at h0 h1; rw [h0] at h1; cases h1
    · simp [Array.getElem?_eq_none h'] at h1
  induction fuel with
  | zero =>
    intro done a w _ hr hy hS H
    refine ⟨fun h => (by rw [h] at hr; cases hr), fun j hj => ?_⟩
    by_cases hji : j = i
    · subst hji
      exact hy.opC hSR hi (fun a x y h r => ⟨fun hx => hSR _ _ (h.1 hx) r, AnyX.rely T hSR hQR _ _ _ _ _ h.2 r⟩) hS ⟨fun _ => hS, H⟩
    · have := ready_mono hj hji
      rw [H.1] at this
      cases this
  | succ fuel ih =>
    intro done a w hfree hr hy hS H
    refine ⟨fun h => (by rw [h] at hr; cases hr), fun j hj => ?_⟩
    by_cases hji : j = i
    · subst hji
      exact hy.opC hSR hi (fun a x y h r => ⟨fun hx => hSR _ _ (h.1 hx) r, AnyX.rely T hSR hQR _ _ _ _ _ h.2 r⟩) hS ⟨fun _ => hS, H⟩
    · obtain ⟨hjun, oj, hoj, _⟩ := mem_ready.1 hj
      have hjx : j ≠ x := fun e => by
        subst e
        obtain ⟨e, he, hb, heq⟩ := hx oj hoj
        exact wait done hr j oj hj hoj e he hb heq
      have h2 := OpC_putIf hoj (hfree j oj hoj hji hjun (wait done hr j oj hj hoj)) (fun cs b => hsel i oi cs b hi) (fun cs b => hsel j oj cs b hoj) hy (H.2 j (ready_mono hj hji))
      have hfree' : ∀ k ok, ops[k]? = some ok → k ≠ i → (done.setIfInBounds j true).getD k true = false →
          (∀ e ∈ ok.after, Region.binds md e = true → e.on ≠ i) → oi.apart ops ok = true := fun k ok hk hki hun hno => by
        refine hfree k ok hk hki ?_ hno
        by_cases hjk : j = k
        · subst hjk; exact hjun
        · rw [getD_set_ne true hjk] at hun; exact hun
      refine OpC_mono (fun a' w' h3 => ⟨h3.2.1, ih (done.setIfInBounds j true) a' w' hfree' (ready_mono hr (Ne.symm hji)) h3.1 (h3.2.1 hjx) ?_⟩) h2
      rw [Array.setIfInBounds_comm _ _ hji]
      exact h3.2.2
/-- op i is bound ahead of op x -/
def bound (md : Region.Mode) (ops : Array Oper) (x i : Nat) : Bool :=
  match ops[x]? with
  | none => true
  | some ox => ox.after.any fun e => Region.binds md e && e.on == i
theorem bound_spec {i : Nat} (h : bound md ops x i = true) : ∀ ox, ops[x]? = some ox → ∃ e ∈ ox.after, Region.binds md e = true ∧ e.on = i := by
  intro ox ho
  unfold bound at h
  rw [ho] at h
  simp only [Array.any_eq_true, Bool.and_eq_true, beq_iff_eq] at h
  obtain ⟨k, hk, hke⟩ := h
  exact ⟨_, Array.getElem_mem hk, hke.1, hke.2⟩
theorem anyX_take (T : Terms R D) (hSR : ∀ x y, S x → R x y → S y) (hQR : ∀ a x y, Q .normal a x → R x y → Q .normal a y) {i : Nat} {oi : Oper} {v : Value} {fuel : Nat} {done : Array Bool} {a : Act} {w : World} (hi : ops[i]? = some oi)
    (hs : Region.noSelect ops = true) (hf : Region.free md ops done i = true) (hr : (Region.ready md ops done).contains i = true) (hx : bound md ops x i = true)
    (hy : YieldsIfC P D fn ops S oi v a) (hS : S w) (h : AnyX P R D fn md ops Q S x fuel (done.setIfInBounds i true) (a.put oi.dst v) w) : AnyX P R D fn md ops Q S x (fuel + 1) done a w :=
  anyX_first T hSR hQR hi (Region.noSelect_spec hs) (bound_spec hx) fuel done a w (Region.free_spec hi hf) (by simpa using hr) hy hS h
/-- x comes up last -/
theorem anyX_last {done : Array Bool} {a : Act} {w : World} (hr : Region.ready md ops done = [x]) (hr2 : Region.ready md ops (done.setIfInBounds x true) = []) (h : OpC P R D fn ops x (fun a' w' => Q .normal a' w') a w) : AnyX P R D fn md ops Q S x 1 done a w := by
  refine ⟨fun h0 => (by rw [hr] at h0; cases h0), fun i hi => ?_⟩
  rw [hr, List.mem_singleton] at hi
  subst hi
  exact OpC_mono (fun a' w' q => ⟨fun hne => absurd rfl hne, hr2, q⟩) h
theorem opC_k {i : Nat} {o : Oper} {a : Act} {w : World} {K0 : Act → World → Prop} (ho : ops[i]? = some o) (hw : Region.wanted o (yielded ops a.tmps) = true)
    (h : ∀ w₁, R w w₁ → ∀ K : Act → World → Prop, (∀ a' w', D w₁ w' (listed P fn a o w₁) ∧ K0 a' w' → K a' w') → uponK o a K ((execOp a.eval o).run P w₁)) : OpC P R D fn ops i K0 a w := by
  unfold OpC
  simp only [ho, hw, if_true]
  exact fun w₁ h₁ => h w₁ h₁ _ fun _ _ q => q
theorem wpC_region_last (T : Terms R D) (hd : LetsDraw D) {id : Nat} {a : Act} {w : World} (hm : P.follows .mixedOrders = true)
    (h : ∀ w₁, R w w₁ → AnyX P R D fn .any ops Q S x ops.size (Array.replicate ops.size false) a { w₁ with drawn := w₁.drawn + 1 }) : (Code.region id ops true).wpC P main R D fn (ops.size + 1 + 1) Q a w :=
  wpC_region_draw hd fun w₁ h₁ t => by
    simp only [Region.schedule, hm, Bool.true_or, if_true]
    exact anyX_sound T ops.size t _ a _ (h w₁ h₁)
end
end Go.Proofs.YtmphfdibijbjeaaDoor
