/- The starter in company: sync.WaitGroup's Add(1) and Wait under whatever rely; what it does is named by stops. Nothing of one program. -/
import Derived.Test.YtmphfdibijbjeaaDoorHE
import Derived.Conc.WgGenN3
namespace Go.Proofs.YtmphfdibijbjeaaDoor
open Go.Conc Go.ConcN Go.RowKit Go.Conc.Lib Go.ConcR.Gen Go.ConcN.Gen
open Go.ConcR (KK wgBlock WgAt stA smA rd wr mk Payload Aside2 DC0)
set_option linter.unusedSimpArgs false
set_option linter.unusedVariables false
set_option maxRecDepth 100000
section
variable (P : Program) (ty : TypeId) (Wg : Nat) (R : World → World → Prop)
/-- within so many steps of bookkeeping -/
def Soon (K : Goroutine → World → Prop) (g : Goroutine) (w : World) : Prop := ∃ m, Goes P true R (DG Wg) K m g w
/-- the stop at 'disable' .. -/
def SKd (K : Goroutine → World → Prop) (g : Goroutine) (w : World) : Prop := g.status = .running ∧ ∃ g', stepG P true g w = .go g' w #[mk .disable] ∧ K g' w
def SKe (K : Goroutine → World → Prop) (g : Goroutine) (w : World) : Prop := g.status = .running ∧ ∃ g', stepG P true g w = .go g' w #[mk .enable] ∧ K g' w
/-- .. at the atomic add, whatever the count -/
def SA1 (K : Goroutine → World → Prop) (g : Goroutine) (w : World) : Prop :=
  g.status = .running ∧ ∀ v : Nat, v < 2147483647 → WgAt ty Wg w (v * KK) 0 →
    ∃ g', stepG P true g w = .go g' (w.setCell (stA Wg) (.int .u64 ((v + 1) * KK))) #[rd (stA Wg), wr (stA Wg)] ∧ K g' (w.setCell (stA Wg) (.int .u64 ((v + 1) * KK)))
end
section
variable {L : WgLink} {P : Program} {Wg : Nat} {R : World → World → Prop} {F : World → Prop} {K : Goroutine → World → Prop}
  {b₀ : Frame} {a₀ : Act} {ops₀ : Array Oper} {i₀ : Nat} {rest₀ : List Nat} {k₀ : List Item} {cs : List Frame} {mT : Nat}
abbrev GrpF (L : WgLink) (Wg : Nat) (F : World → Prop) (w : World) : Prop := F w ∧ WgLive L.tWg Wg w
set_option maxRecDepth 100000 in
set_option maxHeartbeats 16000000 in
theorem addOne (H : WgLib P L) (hr : ∀ {w w₁}, GrpF L Wg F w → R w w₁ → GrpF L Wg F w₁) (hs : ∀ w v, F w → F (w.setCell (stA Wg) v))
    (hT : ∀ w, GrpF L Wg F w → Goes P true R (DG Wg) K mT (G (b₀.at (a₀.put ((ops₀[i₀]?).bind (·.dst)) (.tuple #[])) (.inRegion ops₀ rest₀ :: k₀)) cs) w)
    (w : World) (hF : GrpF L Wg F w) :
    Goes P true R (DG Wg) (SKd P (Soon P Wg R (SA1 P L.tWg Wg (Soon P Wg R (SKe P (Soon P Wg R K)))))) 12
      (G ((base L.add).at ⟨#[.pointer (some ⟨Wg, 0, none⟩), .int .i64 1] ++ Array.replicate 115 undef, []⟩ [.code (body_add L)]) (b₀.at a₀ (.inRegion ops₀ (i₀ :: rest₀) :: k₀) :: cs)) w := by
  lib_facts
  simp only [body_add, addFn, Option.getD_some, Array.replicate_succ, Array.replicate_zero, List.push_toArray, List.append_toArray, List.nil_append, List.cons_append]
  iterate 12 (u_in hr hF; first | (rw [stepG_seq]; simp only [goes_go]; refine ⟨dg_nil, ?_⟩) | (rw [stepG_region]; simp only [goes_go, List.size_toArray, List.length_cons, List.length_nil, Nat.reduceAdd, Nat.zero_add, List.range, List.range.loop]; refine ⟨dg_nil, ?_⟩) | (rw [stepG_region_end]; simp only [goes_go]; refine ⟨dg_nil, ?_⟩) | (rw [stepG_cond (t := true) rfl]; simp only [goes_go, if_true, if_false, Bool.false_eq_true, ↓reduceIte]; refine ⟨dg_nil, ?_⟩) | (rw [stepG_cond (t := false) rfl]; simp only [goes_go, if_true, if_false, Bool.false_eq_true, ↓reduceIte]; refine ⟨dg_nil, ?_⟩) | (rw [stepG_skip]; simp only [goes_go]; refine ⟨dg_nil, ?_⟩) | (rw [stepG_unwanted rfl rfl]; simp only [goes_go]; refine ⟨dg_nil, ?_⟩; walk_nrm) | (refine goes_oper_k rfl rfl (by k_ne) (fun K hK => ?_); go_simp; refine hK _ _ ⟨?_, ?_⟩; (· (refine dg_none ?_; intro e he; have hm := mem_listed he; simp [go_sem, *] at hm)); clear hK K; try w_num))
  refine Goes.stop (fun w₁ h₁ => ?_)
  replace hF := hr hF h₁
  clear h₁
  refine ⟨rfl, _, stepG_mark0 .disable (by simp) rfl rfl (by k_ne) rfl H.f_disable (x_disable_n L) (x_disable_b L) (x_disable_x L) (x_disable_f L), 40, ?_⟩
  walk_nrm
  (u_in hr hF; rw [stepG_region_end]; simp only [goes_go]; refine ⟨dg_nil, ?_⟩)
  (u_in hr hF; rw [stepG_region]; simp only [goes_go, List.size_toArray, List.length_cons, List.length_nil, Nat.reduceAdd, Nat.zero_add, List.range, List.range.loop]; refine ⟨dg_nil, ?_⟩)
  (u_in hr hF; rw [stepG_defer rfl rfl (by k_ne) rfl]; simp only [goes_go]; refine ⟨dg_nil, ?_⟩; walk_nrm)
  iterate 8 (u_in hr hF; first | (rw [stepG_seq]; simp only [goes_go]; refine ⟨dg_nil, ?_⟩) | (rw [stepG_region]; simp only [goes_go, List.size_toArray, List.length_cons, List.length_nil, Nat.reduceAdd, Nat.zero_add, List.range, List.range.loop]; refine ⟨dg_nil, ?_⟩) | (rw [stepG_region_end]; simp only [goes_go]; refine ⟨dg_nil, ?_⟩) | (rw [stepG_cond (t := true) rfl]; simp only [goes_go, if_true, if_false, Bool.false_eq_true, ↓reduceIte]; refine ⟨dg_nil, ?_⟩) | (rw [stepG_cond (t := false) rfl]; simp only [goes_go, if_true, if_false, Bool.false_eq_true, ↓reduceIte]; refine ⟨dg_nil, ?_⟩) | (rw [stepG_skip]; simp only [goes_go]; refine ⟨dg_nil, ?_⟩) | (rw [stepG_unwanted rfl rfl]; simp only [goes_go]; refine ⟨dg_nil, ?_⟩; walk_nrm) | (refine goes_oper_k rfl rfl (by k_ne) (fun K hK => ?_); go_simp; refine hK _ _ ⟨?_, ?_⟩; (· (refine dg_none ?_; intro e he; have hm := mem_listed he; simp [go_sem, *] at hm)); clear hK K; try w_num))
  (u_in hr hF; rw [stepG_entry_pure (.bool false) rfl rfl (by k_ne) rfl H.f_inBubble (x_inBubble_n L) (x_inBubble_b L) (x_inBubble_x L) (x_inBubble_f L)]; simp only [goes_go]; refine ⟨dg_nil, ?_⟩; walk_nrm)
  iterate 11 (u_in hr hF; first | (rw [stepG_seq]; simp only [goes_go]; refine ⟨dg_nil, ?_⟩) | (rw [stepG_region]; simp only [goes_go, List.size_toArray, List.length_cons, List.length_nil, Nat.reduceAdd, Nat.zero_add, List.range, List.range.loop]; refine ⟨dg_nil, ?_⟩) | (rw [stepG_region_end]; simp only [goes_go]; refine ⟨dg_nil, ?_⟩) | (rw [stepG_cond (t := true) rfl]; simp only [goes_go, if_true, if_false, Bool.false_eq_true, ↓reduceIte]; refine ⟨dg_nil, ?_⟩) | (rw [stepG_cond (t := false) rfl]; simp only [goes_go, if_true, if_false, Bool.false_eq_true, ↓reduceIte]; refine ⟨dg_nil, ?_⟩) | (rw [stepG_skip]; simp only [goes_go]; refine ⟨dg_nil, ?_⟩) | (rw [stepG_unwanted rfl rfl]; simp only [goes_go]; refine ⟨dg_nil, ?_⟩; walk_nrm) | (refine goes_oper_k rfl rfl (by k_ne) (fun K hK => ?_); go_simp; refine hK _ _ ⟨?_, ?_⟩; (· (refine dg_none ?_; intro e he; have hm := mem_listed he; simp [go_sem, *] at hm)); clear hK K; try w_num))
  (u_in hr hF; refine goes_call rfl rfl (by k_ne) rfl H.f_uAdd (nm_uAdd L) rfl ⟨dg_nil, ?_⟩; walk_nrmf uAddFn)
  iterate 10 (u_in hr hF; first | (rw [stepG_seq]; simp only [goes_go]; refine ⟨dg_nil, ?_⟩) | (rw [stepG_region]; simp only [goes_go, List.size_toArray, List.length_cons, List.length_nil, Nat.reduceAdd, Nat.zero_add, List.range, List.range.loop]; refine ⟨dg_nil, ?_⟩) | (rw [stepG_region_end]; simp only [goes_go]; refine ⟨dg_nil, ?_⟩) | (rw [stepG_cond (t := true) rfl]; simp only [goes_go, if_true, if_false, Bool.false_eq_true, ↓reduceIte]; refine ⟨dg_nil, ?_⟩) | (rw [stepG_cond (t := false) rfl]; simp only [goes_go, if_true, if_false, Bool.false_eq_true, ↓reduceIte]; refine ⟨dg_nil, ?_⟩) | (rw [stepG_skip]; simp only [goes_go]; refine ⟨dg_nil, ?_⟩) | (rw [stepG_unwanted rfl rfl]; simp only [goes_go]; refine ⟨dg_nil, ?_⟩; walk_nrm) | (refine goes_oper_k rfl rfl (by k_ne) (fun K hK => ?_); go_simp; refine hK _ _ ⟨?_, ?_⟩; (· (refine dg_none ?_; intro e he; have hm := mem_listed he; simp [go_sem, *] at hm)); clear hK K; try w_num))
  refine Goes.stop (fun w₂ h₂ => ?_)
  replace hF := hr hF h₂
  clear h₂
  refine ⟨rfl, fun v hv hw => ?_⟩
  obtain ⟨V, hV⟩ : ∃ V : Int, V = (v : Int) + 1 := ⟨_, rfl⟩
  obtain ⟨S, hS⟩ : ∃ S : Int, S = V * KK := ⟨_, rfl⟩
  have eS : IntKind.u64.wrap ((v : Int) * KK + 4294967296) = S := by rw [IntKind.wrap_u64, hS, hV]; simp only [KK]; omega
  rw [← hV, ← hS]
  have a1 : S / 4294967296 = V := by rw [hS]; simp only [KK]; omega
  have b1 : bits .and .u64 S 2147483648 = 0 := by rw [hS, hV]; have := st_flag (v + 1) 0 (by omega) (by omega); simpa [KK] using this
  have b2 : bits .and .u64 S 2147483647 = 0 := by rw [hS, hV]; have := st_waiters (v + 1) 0 (by omega) (by omega); simpa [KK] using this
  have c1 : IntKind.i32.wrap V = V := by rw [IntKind.wrap_i32]; omega
  have q3 : decide (V < 0) = false := decide_eq_false (by omega)
  have q4 : decide (0 < V) = true := decide_eq_true (by omega)
  have q5 : (V == 0) = false := by simp; omega
  have q6 : decide (V = 0) = false := decide_eq_false (by omega)
  refine ⟨_, (stepG_add_atomic rfl rfl (by k_ne) rfl H.f_addU64 (x_addU64_n L) (x_addU64_b L) (x_addU64_x L) .u64 (x_addU64_f L) rfl rfl hw.cellSt (hw.thaw 0)).trans (by rw [eS]; rfl), 110, ?_⟩
  replace hF : GrpF L Wg F (w₂.setCell (stA Wg) (.int .u64 S)) := ⟨hs _ _ hF.1, ⟨_, _, hw.setSt _⟩⟩
  have hV1 : V = 1 ∨ 1 < V := by omega
  have hV2 : V < 2147483648 := by omega
  clear hw hS hV eS
  rcases hV1 with rfl | hV1
  · walk_nrm
    iterate 2 (u_in hr hF; first | (rw [stepG_seq]; simp only [goes_go]; refine ⟨dg_nil, ?_⟩) | (rw [stepG_region]; simp only [goes_go, List.size_toArray, List.length_cons, List.length_nil, Nat.reduceAdd, Nat.zero_add, List.range, List.range.loop]; refine ⟨dg_nil, ?_⟩) | (rw [stepG_region_end]; simp only [goes_go]; refine ⟨dg_nil, ?_⟩) | (rw [stepG_cond (t := true) rfl]; simp only [goes_go, if_true, if_false, Bool.false_eq_true, ↓reduceIte]; refine ⟨dg_nil, ?_⟩) | (rw [stepG_cond (t := false) rfl]; simp only [goes_go, if_true, if_false, Bool.false_eq_true, ↓reduceIte]; refine ⟨dg_nil, ?_⟩) | (rw [stepG_skip]; simp only [goes_go]; refine ⟨dg_nil, ?_⟩) | (rw [stepG_unwanted rfl rfl]; simp only [goes_go]; refine ⟨dg_nil, ?_⟩; walk_nrm) | (refine goes_oper_k rfl rfl (by k_ne) (fun K hK => ?_); go_simp; refine hK _ _ ⟨?_, ?_⟩; (· (refine dg_none ?_; intro e he; have hm := mem_listed he; simp [go_sem, *] at hm)); clear hK K; try w_num))
    (u_in hr hF; rw [stepG_ret']; simp only [goes_go]; refine ⟨dg_nil, ?_⟩)
    (u_in hr hF; refine goes_leave1 rfl rfl H.f_uAdd rfl ⟨dg_nil, ?_⟩; walk_nrm)
    iterate 48 (u_in hr hF; first | (rw [stepG_seq]; simp only [goes_go]; refine ⟨dg_nil, ?_⟩) | (rw [stepG_region]; simp only [goes_go, List.size_toArray, List.length_cons, List.length_nil, Nat.reduceAdd, Nat.zero_add, List.range, List.range.loop]; refine ⟨dg_nil, ?_⟩) | (rw [stepG_region_end]; simp only [goes_go]; refine ⟨dg_nil, ?_⟩) | (rw [stepG_cond (t := true) rfl]; simp only [goes_go, if_true, if_false, Bool.false_eq_true, ↓reduceIte]; refine ⟨dg_nil, ?_⟩) | (rw [stepG_cond (t := false) rfl]; simp only [goes_go, if_true, if_false, Bool.false_eq_true, ↓reduceIte]; refine ⟨dg_nil, ?_⟩) | (rw [stepG_skip]; simp only [goes_go]; refine ⟨dg_nil, ?_⟩) | (rw [stepG_unwanted rfl rfl]; simp only [goes_go]; refine ⟨dg_nil, ?_⟩; walk_nrm) | (refine goes_oper_k rfl rfl (by k_ne) (fun K hK => ?_); go_simp; refine hK _ _ ⟨?_, ?_⟩; (· (refine dg_none ?_; intro e he; have hm := mem_listed he; simp [go_sem, *] at hm)); clear hK K; try w_num))
    (u_in hr hF; refine goes_oper_k rfl rfl (by k_ne) (fun Kx hKx => ?_); have hcv := run_convert_to_unsafe (P := P) H.underlying_tPU32 H.underlying_tUP H.room_tU32 (WgLive.cell1 hF.2).choose_spec; have hce := fun es => events_convert_to_unsafe (P := P) H.underlying_tPU32 H.underlying_tUP H.room_tU32 (WgLive.cell1 hF.2).choose_spec es; go_simp; refine hKx _ _ ⟨?_, ?_⟩; (· (refine dg_none ?_; intro ex hex; have hmx := mem_listed hex; simp [go_sem, hce] at hmx)); clear hKx Kx hcv hce)
    u_in hr hF
    rw [stepG_markAt .read (by simp) rfl rfl (by k_ne) rfl H.f_raceRead (x_raceRead_n L) (x_raceRead_b L) (x_raceRead_x L) (x_raceRead_f L) (ad := ⟨Wg, 1, none⟩) (by simp [Act.eval])]
    simp only [goes_go]
    refine ⟨⟨rfl, fun e he => ?_⟩, ?_⟩
    · rw [Array.mem_singleton] at he
      subst he
      exact evG_read _ rfl
    walk_nrm
    iterate 38 (u_in hr hF; first | (rw [stepG_seq]; simp only [goes_go]; refine ⟨dg_nil, ?_⟩) | (rw [stepG_region]; simp only [goes_go, List.size_toArray, List.length_cons, List.length_nil, Nat.reduceAdd, Nat.zero_add, List.range, List.range.loop]; refine ⟨dg_nil, ?_⟩) | (rw [stepG_region_end]; simp only [goes_go]; refine ⟨dg_nil, ?_⟩) | (rw [stepG_cond (t := true) rfl]; simp only [goes_go, if_true, if_false, Bool.false_eq_true, ↓reduceIte]; refine ⟨dg_nil, ?_⟩) | (rw [stepG_cond (t := false) rfl]; simp only [goes_go, if_true, if_false, Bool.false_eq_true, ↓reduceIte]; refine ⟨dg_nil, ?_⟩) | (rw [stepG_skip]; simp only [goes_go]; refine ⟨dg_nil, ?_⟩) | (rw [stepG_unwanted rfl rfl]; simp only [goes_go]; refine ⟨dg_nil, ?_⟩; walk_nrm) | (refine goes_oper_k rfl rfl (by k_ne) (fun K hK => ?_); go_simp; refine hK _ _ ⟨?_, ?_⟩; (· (refine dg_none ?_; intro e he; have hm := mem_listed he; simp [go_sem, *] at hm)); clear hK K; try w_num))
    (u_in hr hF; rw [stepG_ret']; simp only [goes_go]; refine ⟨dg_nil, ?_⟩)
    refine Goes.stop (fun w₃ h₃ => ?_)
    replace hF := hr hF h₃
    clear h₃
    refine ⟨rfl, _, stepG_unwind_entry (v := .tuple #[]) (evs := #[mk .enable]) rfl H.f_enable (x_enable_n L) (x_enable_b L) (x_enable_x L) (x_enable_f L) (by simp [Extern.Race.none_]) (by simp [mk]) (by simp [mk]), mT + 1, ?_⟩
    (u_in hr hF; refine goes_leave0 rfl rfl H.f_add rfl ⟨dg_nil, ?_⟩; walk_nrm)
    exact hT _ hF
  · have q1 : (V == 1) = false := by simp; omega
    have q2 : decide (V = 1) = false := decide_eq_false (by omega)
    walk_nrm
    iterate 2 (u_in hr hF; first | (rw [stepG_seq]; simp only [goes_go]; refine ⟨dg_nil, ?_⟩) | (rw [stepG_region]; simp only [goes_go, List.size_toArray, List.length_cons, List.length_nil, Nat.reduceAdd, Nat.zero_add, List.range, List.range.loop]; refine ⟨dg_nil, ?_⟩) | (rw [stepG_region_end]; simp only [goes_go]; refine ⟨dg_nil, ?_⟩) | (rw [stepG_cond (t := true) rfl]; simp only [goes_go, if_true, if_false, Bool.false_eq_true, ↓reduceIte]; refine ⟨dg_nil, ?_⟩) | (rw [stepG_cond (t := false) rfl]; simp only [goes_go, if_true, if_false, Bool.false_eq_true, ↓reduceIte]; refine ⟨dg_nil, ?_⟩) | (rw [stepG_skip]; simp only [goes_go]; refine ⟨dg_nil, ?_⟩) | (rw [stepG_unwanted rfl rfl]; simp only [goes_go]; refine ⟨dg_nil, ?_⟩; walk_nrm) | (refine goes_oper_k rfl rfl (by k_ne) (fun K hK => ?_); go_simp; refine hK _ _ ⟨?_, ?_⟩; (· (refine dg_none ?_; intro e he; have hm := mem_listed he; simp [go_sem, *] at hm)); clear hK K; try w_num))
    (u_in hr hF; rw [stepG_ret']; simp only [goes_go]; refine ⟨dg_nil, ?_⟩)
    (u_in hr hF; refine goes_leave1 rfl rfl H.f_uAdd rfl ⟨dg_nil, ?_⟩; walk_nrm)
    iterate 43 (u_in hr hF; first | (rw [stepG_seq]; simp only [goes_go]; refine ⟨dg_nil, ?_⟩) | (rw [stepG_region]; simp only [goes_go, List.size_toArray, List.length_cons, List.length_nil, Nat.reduceAdd, Nat.zero_add, List.range, List.range.loop]; refine ⟨dg_nil, ?_⟩) | (rw [stepG_region_end]; simp only [goes_go]; refine ⟨dg_nil, ?_⟩) | (rw [stepG_cond (t := true) rfl]; simp only [goes_go, if_true, if_false, Bool.false_eq_true, ↓reduceIte]; refine ⟨dg_nil, ?_⟩) | (rw [stepG_cond (t := false) rfl]; simp only [goes_go, if_true, if_false, Bool.false_eq_true, ↓reduceIte]; refine ⟨dg_nil, ?_⟩) | (rw [stepG_skip]; simp only [goes_go]; refine ⟨dg_nil, ?_⟩) | (rw [stepG_unwanted rfl rfl]; simp only [goes_go]; refine ⟨dg_nil, ?_⟩; walk_nrm) | (refine goes_oper_k rfl rfl (by k_ne) (fun K hK => ?_); go_simp; refine hK _ _ ⟨?_, ?_⟩; (· (refine dg_none ?_; intro e he; have hm := mem_listed he; simp [go_sem, *] at hm)); clear hK K; try w_num))
    (u_in hr hF; rw [stepG_cond (t := false) (by first | rfl | (simp [Act.eval]; omega))]; simp only [goes_go, if_true, if_false, Bool.false_eq_true, ↓reduceIte]; refine ⟨dg_nil, ?_⟩)
    iterate 7 (u_in hr hF; first | (rw [stepG_seq]; simp only [goes_go]; refine ⟨dg_nil, ?_⟩) | (rw [stepG_region]; simp only [goes_go, List.size_toArray, List.length_cons, List.length_nil, Nat.reduceAdd, Nat.zero_add, List.range, List.range.loop]; refine ⟨dg_nil, ?_⟩) | (rw [stepG_region_end]; simp only [goes_go]; refine ⟨dg_nil, ?_⟩) | (rw [stepG_cond (t := true) rfl]; simp only [goes_go, if_true, if_false, Bool.false_eq_true, ↓reduceIte]; refine ⟨dg_nil, ?_⟩) | (rw [stepG_cond (t := false) rfl]; simp only [goes_go, if_true, if_false, Bool.false_eq_true, ↓reduceIte]; refine ⟨dg_nil, ?_⟩) | (rw [stepG_skip]; simp only [goes_go]; refine ⟨dg_nil, ?_⟩) | (rw [stepG_unwanted rfl rfl]; simp only [goes_go]; refine ⟨dg_nil, ?_⟩; walk_nrm) | (refine goes_oper_k rfl rfl (by k_ne) (fun K hK => ?_); go_simp; refine hK _ _ ⟨?_, ?_⟩; (· (refine dg_none ?_; intro e he; have hm := mem_listed he; simp [go_sem, *] at hm)); clear hK K; try w_num))
    (u_in hr hF; rw [stepG_cond (t := false) (by first | rfl | (simp [Act.eval]; omega))]; simp only [goes_go, if_true, if_false, Bool.false_eq_true, ↓reduceIte]; refine ⟨dg_nil, ?_⟩)
    iterate 17 (u_in hr hF; first | (rw [stepG_seq]; simp only [goes_go]; refine ⟨dg_nil, ?_⟩) | (rw [stepG_region]; simp only [goes_go, List.size_toArray, List.length_cons, List.length_nil, Nat.reduceAdd, Nat.zero_add, List.range, List.range.loop]; refine ⟨dg_nil, ?_⟩) | (rw [stepG_region_end]; simp only [goes_go]; refine ⟨dg_nil, ?_⟩) | (rw [stepG_cond (t := true) rfl]; simp only [goes_go, if_true, if_false, Bool.false_eq_true, ↓reduceIte]; refine ⟨dg_nil, ?_⟩) | (rw [stepG_cond (t := false) rfl]; simp only [goes_go, if_true, if_false, Bool.false_eq_true, ↓reduceIte]; refine ⟨dg_nil, ?_⟩) | (rw [stepG_skip]; simp only [goes_go]; refine ⟨dg_nil, ?_⟩) | (rw [stepG_unwanted rfl rfl]; simp only [goes_go]; refine ⟨dg_nil, ?_⟩; walk_nrm) | (refine goes_oper_k rfl rfl (by k_ne) (fun K hK => ?_); go_simp; refine hK _ _ ⟨?_, ?_⟩; (· (refine dg_none ?_; intro e he; have hm := mem_listed he; simp [go_sem, *] at hm)); clear hK K; try w_num))
    (u_in hr hF; rw [stepG_cond (t := false) (by first | rfl | (simp [Act.eval]; omega))]; simp only [goes_go, if_true, if_false, Bool.false_eq_true, ↓reduceIte]; refine ⟨dg_nil, ?_⟩)
    iterate 11 (u_in hr hF; first | (rw [stepG_seq]; simp only [goes_go]; refine ⟨dg_nil, ?_⟩) | (rw [stepG_region]; simp only [goes_go, List.size_toArray, List.length_cons, List.length_nil, Nat.reduceAdd, Nat.zero_add, List.range, List.range.loop]; refine ⟨dg_nil, ?_⟩) | (rw [stepG_region_end]; simp only [goes_go]; refine ⟨dg_nil, ?_⟩) | (rw [stepG_cond (t := true) rfl]; simp only [goes_go, if_true, if_false, Bool.false_eq_true, ↓reduceIte]; refine ⟨dg_nil, ?_⟩) | (rw [stepG_cond (t := false) rfl]; simp only [goes_go, if_true, if_false, Bool.false_eq_true, ↓reduceIte]; refine ⟨dg_nil, ?_⟩) | (rw [stepG_skip]; simp only [goes_go]; refine ⟨dg_nil, ?_⟩) | (rw [stepG_unwanted rfl rfl]; simp only [goes_go]; refine ⟨dg_nil, ?_⟩; walk_nrm) | (refine goes_oper_k rfl rfl (by k_ne) (fun K hK => ?_); go_simp; refine hK _ _ ⟨?_, ?_⟩; (· (refine dg_none ?_; intro e he; have hm := mem_listed he; simp [go_sem, *] at hm)); clear hK K; try w_num))
    (u_in hr hF; rw [stepG_cond (t := true) (by first | rfl | (simp [Act.eval]; omega))]; simp only [goes_go, if_true, if_false, Bool.false_eq_true, ↓reduceIte]; refine ⟨dg_nil, ?_⟩)
    (u_in hr hF; rw [stepG_ret']; simp only [goes_go]; refine ⟨dg_nil, ?_⟩)
    refine Goes.stop (fun w₃ h₃ => ?_)
    replace hF := hr hF h₃
    clear h₃
    refine ⟨rfl, _, stepG_unwind_entry (v := .tuple #[]) (evs := #[mk .enable]) rfl H.f_enable (x_enable_n L) (x_enable_b L) (x_enable_x L) (x_enable_f L) (by simp [Extern.Race.none_]) (by simp [mk]) (by simp [mk]), mT + 1, ?_⟩
    (u_in hr hF; refine goes_leave0 rfl rfl H.f_add rfl ⟨dg_nil, ?_⟩; walk_nrm)
    exact hT _ hF
end
end Go.Proofs.YtmphfdibijbjeaaDoor
