/- The starter in company: sync.WaitGroup's Wait under whatever rely (beside HK's Add). Nothing of one program. -/
import Derived.Test.YtmphfdibijbjeaaDoorHL
namespace Go.Proofs.YtmphfdibijbjeaaDoor
open Go.Conc Go.ConcN Go.RowKit Go.Conc.Lib Go.ConcR.Gen Go.ConcN.Gen
open Go.ConcR (KK wgBlock WgAt stA smA rd wr mk Payload Aside2 DC0)
set_option linter.unusedSimpArgs false
set_option linter.unusedVariables false
set_option maxRecDepth 100000
section
variable {L : WgLink} {P : Program} {Wg : Nat} {R : World → World → Prop} {F : World → Prop} {K : Goroutine → World → Prop}
  {b₀ : Frame} {a₀ : Act} {ops₀ : Array Oper} {i₀ : Nat} {rest₀ : List Nat} {k₀ : List Item} {cs : List Frame} {mT : Nat}
set_option maxRecDepth 100000 in
/-- from Wait's entry to its loop's head -/
theorem waitIn (H : WgLib P L) (hr : ∀ {w w₁}, GrpF L Wg F w → R w w₁ → GrpF L Wg F w₁) (w : World) (hF : GrpF L Wg F w) :
    Goes P true R (DG Wg) (SKd P (Soon P Wg R (AnchWN L F Wg (b₀.at a₀ (.inRegion ops₀ (i₀ :: rest₀) :: k₀)) cs))) 3
      (G ((base L.wait).at ⟨#[.pointer (some ⟨Wg, 0, none⟩)] ++ Array.replicate 83 undef, []⟩ [.code (body_wait L)]) (b₀.at a₀ (.inRegion ops₀ (i₀ :: rest₀) :: k₀) :: cs)) w := by
  lib_facts
  simp only [body_wait, waitFn, Option.getD_some, Array.replicate_succ, Array.replicate_zero, List.push_toArray, List.append_toArray, List.nil_append, List.cons_append]
  iterate 3 (u_in hr hF; first | (rw [stepG_seq]; simp only [goes_go]; refine ⟨dg_nil, ?_⟩) | (rw [stepG_region]; simp only [goes_go, List.size_toArray, List.length_cons, List.length_nil, Nat.reduceAdd, Nat.zero_add, List.range, List.range.loop]; refine ⟨dg_nil, ?_⟩) | (rw [stepG_region_end]; simp only [goes_go]; refine ⟨dg_nil, ?_⟩) | (rw [stepG_cond (t := true) rfl]; simp only [goes_go, if_true, if_false, Bool.false_eq_true, ↓reduceIte]; refine ⟨dg_nil, ?_⟩) | (rw [stepG_cond (t := false) rfl]; simp only [goes_go, if_true, if_false, Bool.false_eq_true, ↓reduceIte]; refine ⟨dg_nil, ?_⟩) | (rw [stepG_skip]; simp only [goes_go]; refine ⟨dg_nil, ?_⟩) | (rw [stepG_unwanted rfl rfl]; simp only [goes_go]; refine ⟨dg_nil, ?_⟩; walk_nrm) | (refine goes_oper_k rfl rfl (by k_ne) (fun K hK => ?_); go_simp; refine hK _ _ ⟨?_, ?_⟩; (· (refine dg_none ?_; intro e he; have hm := mem_listed he; simp [go_sem, *] at hm)); clear hK K; try w_num))
  refine Goes.stop (fun w₁ h₁ => ?_)
  replace hF := hr hF h₁
  clear h₁
  refine ⟨rfl, _, stepG_mark0 .disable (by simp) rfl rfl (by k_ne) rfl H.f_disable (x_disable_n L) (x_disable_b L) (x_disable_x L) (x_disable_f L), 3, ?_⟩
  walk_nrm
  (u_in hr hF; rw [stepG_region_end]; simp only [goes_go]; refine ⟨dg_nil, ?_⟩)
  (u_in hr hF; rw [stepG_block]; simp only [goes_go]; refine ⟨dg_nil, ?_⟩)
  (u_in hr hF; rw [stepG_loop]; simp only [goes_go]; refine ⟨dg_nil, ?_⟩)
  exact Goes.stop (fun w₂ h₂ => ⟨_, rfl, by simp, by simp, hr hF h₂⟩)
set_option maxRecDepth 100000 in
set_option maxHeartbeats 16000000 in
/-- from the loop's head -/
theorem waitOn (H : WgLib P L) (hr : ∀ {w w₁}, GrpF L Wg F w → R w w₁ → GrpF L Wg F w₁) (hs : ∀ w a v, a.block = Wg → F w → F (w.setCell a v))
    (hT : ∀ w, GrpF L Wg F w → Goes P true R (DG Wg) K mT (G (b₀.at (a₀.put ((ops₀[i₀]?).bind (·.dst)) (.tuple #[])) (.inRegion ops₀ rest₀ :: k₀)) cs) w)
    (g : Goroutine) (w : World) (h : AnchWN L F Wg (b₀.at a₀ (.inRegion ops₀ (i₀ :: rest₀) :: k₀)) cs g w) :
    Soon P Wg R (SW1 P L.tWg Wg (OutK P Wg R K) (fun v => Soon P Wg R (SW2 P L.tWg Wg v (Soon P Wg R (SW3 P L.tWg Wg (Soon P Wg R (SW4 P L.tWg Wg (OutK P Wg R K))))) (Soon P Wg R (AnchWN L F Wg (b₀.at a₀ (.inRegion ops₀ (i₀ :: rest₀) :: k₀)) cs))))) g w := by
  lib_facts
  obtain ⟨T, rfl, hT84, t0, hF⟩ := h
  obtain ⟨v0, v1, v2, v3, v4, v5, v6, v7, v8, v9, v10, v11, v12, v13, v14, v15, v16, v17, v18, v19, v20, v21, v22, v23, v24, v25, v26, v27, v28, v29, v30, v31, v32, v33, v34, v35, v36, v37, v38, v39, v40, v41, v42, v43, v44, v45, v46, v47, v48, v49, v50, v51, v52, v53, v54, v55, v56, v57, v58, v59, v60, v61, v62, v63, v64, v65, v66, v67, v68, v69, v70, v71, v72, v73, v74, v75, v76, v77, v78, v79, v80, v81, v82, v83, rfl⟩ := array84 T hT84
  simp only [List.getElem?_toArray, List.getElem?_cons_zero, Option.some.injEq] at t0
  subst t0
  refine ⟨30, ?_⟩
  simp only [L7, body_wait, waitFn, Option.getD_some]
  (u_in hr hF; rw [stepG_block]; simp only [goes_go]; refine ⟨dg_nil, ?_⟩)
  iterate 5 (u_in hr hF; first | (rw [stepG_seq]; simp only [goes_go]; refine ⟨dg_nil, ?_⟩) | (rw [stepG_region]; simp only [goes_go, List.size_toArray, List.length_cons, List.length_nil, Nat.reduceAdd, Nat.zero_add, List.range, List.range.loop]; refine ⟨dg_nil, ?_⟩) | (rw [stepG_region_end]; simp only [goes_go]; refine ⟨dg_nil, ?_⟩) | (rw [stepG_cond (t := true) rfl]; simp only [goes_go, if_true, if_false, Bool.false_eq_true, ↓reduceIte]; refine ⟨dg_nil, ?_⟩) | (rw [stepG_cond (t := false) rfl]; simp only [goes_go, if_true, if_false, Bool.false_eq_true, ↓reduceIte]; refine ⟨dg_nil, ?_⟩) | (rw [stepG_skip]; simp only [goes_go]; refine ⟨dg_nil, ?_⟩) | (rw [stepG_unwanted rfl rfl]; simp only [goes_go]; refine ⟨dg_nil, ?_⟩; walk_nrm) | (refine goes_oper_k rfl rfl (by k_ne) (fun K hK => ?_); go_simp; refine hK _ _ ⟨?_, ?_⟩; (· (refine dg_none ?_; intro e he; have hm := mem_listed he; simp [go_sem, *] at hm)); clear hK K; try w_num))
  (u_in hr hF; refine goes_call rfl rfl (by k_ne) rfl H.f_uLoad (nm_uLoad L) rfl ⟨dg_nil, ?_⟩; walk_nrmf uLoadFn)
  iterate 9 (u_in hr hF; first | (rw [stepG_seq]; simp only [goes_go]; refine ⟨dg_nil, ?_⟩) | (rw [stepG_region]; simp only [goes_go, List.size_toArray, List.length_cons, List.length_nil, Nat.reduceAdd, Nat.zero_add, List.range, List.range.loop]; refine ⟨dg_nil, ?_⟩) | (rw [stepG_region_end]; simp only [goes_go]; refine ⟨dg_nil, ?_⟩) | (rw [stepG_cond (t := true) rfl]; simp only [goes_go, if_true, if_false, Bool.false_eq_true, ↓reduceIte]; refine ⟨dg_nil, ?_⟩) | (rw [stepG_cond (t := false) rfl]; simp only [goes_go, if_true, if_false, Bool.false_eq_true, ↓reduceIte]; refine ⟨dg_nil, ?_⟩) | (rw [stepG_skip]; simp only [goes_go]; refine ⟨dg_nil, ?_⟩) | (rw [stepG_unwanted rfl rfl]; simp only [goes_go]; refine ⟨dg_nil, ?_⟩; walk_nrm) | (refine goes_oper_k rfl rfl (by k_ne) (fun K hK => ?_); go_simp; refine hK _ _ ⟨?_, ?_⟩; (· (refine dg_none ?_; intro e he; have hm := mem_listed he; simp [go_sem, *] at hm)); clear hK K; try w_num))
  refine Goes.stop (fun w₁ h₁ => ?_)
  replace hF := hr hF h₁
  clear h₁
  refine ⟨rfl, fun v hv hw => ?_⟩
  rcases Nat.eq_zero_or_pos v with rfl | hvp
  · replace hw : WgAt L.tWg Wg w₁ 0 0 := by simpa using hw
    refine ⟨_, stepG_load_atomic (v := 0) rfl rfl (by k_ne) rfl H.f_loadU64 (x_loadU64_n L) (x_loadU64_b L) (x_loadU64_x L) .u64 (x_loadU64_f L) rfl hw.cellSt, fun _ => ⟨50, ?_⟩, fun h => absurd rfl h⟩
    clear hw
    walk_nrm
    iterate 2 (u_in hr hF; first | (rw [stepG_seq]; simp only [goes_go]; refine ⟨dg_nil, ?_⟩) | (rw [stepG_region]; simp only [goes_go, List.size_toArray, List.length_cons, List.length_nil, Nat.reduceAdd, Nat.zero_add, List.range, List.range.loop]; refine ⟨dg_nil, ?_⟩) | (rw [stepG_region_end]; simp only [goes_go]; refine ⟨dg_nil, ?_⟩) | (rw [stepG_cond (t := true) rfl]; simp only [goes_go, if_true, if_false, Bool.false_eq_true, ↓reduceIte]; refine ⟨dg_nil, ?_⟩) | (rw [stepG_cond (t := false) rfl]; simp only [goes_go, if_true, if_false, Bool.false_eq_true, ↓reduceIte]; refine ⟨dg_nil, ?_⟩) | (rw [stepG_skip]; simp only [goes_go]; refine ⟨dg_nil, ?_⟩) | (rw [stepG_unwanted rfl rfl]; simp only [goes_go]; refine ⟨dg_nil, ?_⟩; walk_nrm) | (refine goes_oper_k rfl rfl (by k_ne) (fun K hK => ?_); go_simp; refine hK _ _ ⟨?_, ?_⟩; (· (refine dg_none ?_; intro e he; have hm := mem_listed he; simp [go_sem, *] at hm)); clear hK K; try w_num))
    (u_in hr hF; rw [stepG_ret']; simp only [goes_go]; refine ⟨dg_nil, ?_⟩)
    (u_in hr hF; refine goes_leave1 rfl rfl H.f_uLoad rfl ⟨dg_nil, ?_⟩; walk_nrm)
    iterate 27 (u_in hr hF; first | (rw [stepG_seq]; simp only [goes_go]; refine ⟨dg_nil, ?_⟩) | (rw [stepG_region]; simp only [goes_go, List.size_toArray, List.length_cons, List.length_nil, Nat.reduceAdd, Nat.zero_add, List.range, List.range.loop]; refine ⟨dg_nil, ?_⟩) | (rw [stepG_region_end]; simp only [goes_go]; refine ⟨dg_nil, ?_⟩) | (rw [stepG_cond (t := true) rfl]; simp only [goes_go, if_true, if_false, Bool.false_eq_true, ↓reduceIte]; refine ⟨dg_nil, ?_⟩) | (rw [stepG_cond (t := false) rfl]; simp only [goes_go, if_true, if_false, Bool.false_eq_true, ↓reduceIte]; refine ⟨dg_nil, ?_⟩) | (rw [stepG_skip]; simp only [goes_go]; refine ⟨dg_nil, ?_⟩) | (rw [stepG_unwanted rfl rfl]; simp only [goes_go]; refine ⟨dg_nil, ?_⟩; walk_nrm) | (refine goes_oper_k rfl rfl (by k_ne) (fun K hK => ?_); go_simp; refine hK _ _ ⟨?_, ?_⟩; (· (refine dg_none ?_; intro e he; have hm := mem_listed he; simp [go_sem, *] at hm)); clear hK K; try w_num))
    refine Goes.stop (fun w₅ h₅ => ?_)
    replace hF := hr hF h₅
    clear h₅
    refine ⟨rfl, _, stepG_mark0 .enable (by simp) rfl rfl (by k_ne) rfl H.f_enable (x_enable_n L) (x_enable_b L) (x_enable_x L) (x_enable_f L), 12, ?_⟩
    walk_nrm
    iterate 3 (u_in hr hF; first | (rw [stepG_seq]; simp only [goes_go]; refine ⟨dg_nil, ?_⟩) | (rw [stepG_region]; simp only [goes_go, List.size_toArray, List.length_cons, List.length_nil, Nat.reduceAdd, Nat.zero_add, List.range, List.range.loop]; refine ⟨dg_nil, ?_⟩) | (rw [stepG_region_end]; simp only [goes_go]; refine ⟨dg_nil, ?_⟩) | (rw [stepG_cond (t := true) rfl]; simp only [goes_go, if_true, if_false, Bool.false_eq_true, ↓reduceIte]; refine ⟨dg_nil, ?_⟩) | (rw [stepG_cond (t := false) rfl]; simp only [goes_go, if_true, if_false, Bool.false_eq_true, ↓reduceIte]; refine ⟨dg_nil, ?_⟩) | (rw [stepG_skip]; simp only [goes_go]; refine ⟨dg_nil, ?_⟩) | (rw [stepG_unwanted rfl rfl]; simp only [goes_go]; refine ⟨dg_nil, ?_⟩; walk_nrm) | (refine goes_oper_k rfl rfl (by k_ne) (fun K hK => ?_); go_simp; refine hK _ _ ⟨?_, ?_⟩; (· (refine dg_none ?_; intro e he; have hm := mem_listed he; simp [go_sem, *] at hm)); clear hK K; try w_num))
    (u_in hr hF; refine goes_oper_k rfl rfl (by k_ne) (fun Kx hKx => ?_); have hcv := run_convert_to_unsafe (P := P) H.underlying_tWgP H.underlying_tUP H.room_tWg (WgLive.cell0 hF.2).choose_spec; have hce := fun es => events_convert_to_unsafe (P := P) H.underlying_tWgP H.underlying_tUP H.room_tWg (WgLive.cell0 hF.2).choose_spec es; go_simp; refine hKx _ _ ⟨?_, ?_⟩; (· (refine dg_none ?_; intro ex hex; have hmx := mem_listed hex; simp [go_sem, hce] at hmx)); clear hKx Kx hcv hce)
    refine Goes.stop (fun w₆ h₆ => ?_)
    replace hF := hr hF h₆
    clear h₆
    refine ⟨rfl, _, stepG_markAt .acquire (by simp) rfl rfl (by k_ne) rfl H.f_acquire (x_acquire_n L) (x_acquire_b L) (x_acquire_x L) (x_acquire_f L) (by simp [Act.eval, stA]), mT + 20, ?_⟩
    walk_nrm
    iterate 18 (u_in hr hF; first | (rw [stepG_seq]; simp only [goes_go]; refine ⟨dg_nil, ?_⟩) | (rw [stepG_region]; simp only [goes_go, List.size_toArray, List.length_cons, List.length_nil, Nat.reduceAdd, Nat.zero_add, List.range, List.range.loop]; refine ⟨dg_nil, ?_⟩) | (rw [stepG_region_end]; simp only [goes_go]; refine ⟨dg_nil, ?_⟩) | (rw [stepG_cond (t := true) rfl]; simp only [goes_go, if_true, if_false, Bool.false_eq_true, ↓reduceIte]; refine ⟨dg_nil, ?_⟩) | (rw [stepG_cond (t := false) rfl]; simp only [goes_go, if_true, if_false, Bool.false_eq_true, ↓reduceIte]; refine ⟨dg_nil, ?_⟩) | (rw [stepG_skip]; simp only [goes_go]; refine ⟨dg_nil, ?_⟩) | (rw [stepG_unwanted rfl rfl]; simp only [goes_go]; refine ⟨dg_nil, ?_⟩; walk_nrm) | (refine goes_oper_k rfl rfl (by k_ne) (fun K hK => ?_); go_simp; refine hK _ _ ⟨?_, ?_⟩; (· (refine dg_none ?_; intro e he; have hm := mem_listed he; simp [go_sem, *] at hm)); clear hK K; try w_num))
    (u_in hr hF; rw [stepG_ret']; simp only [goes_go]; refine ⟨dg_nil, ?_⟩)
    (u_in hr hF; refine goes_leave0 rfl rfl H.f_wait rfl ⟨dg_nil, ?_⟩; walk_nrm)
    exact (hT _ hF).mono (by omega)
  · obtain ⟨S, hS⟩ : ∃ S : Int, (v : Int) * KK = S := ⟨_, rfl⟩
    have a1 : S / 4294967296 = (v : Int) := by rw [← hS]; simp only [KK]; omega
    have b1 : bits .and .u64 S 2147483648 = 0 := by rw [← hS]; have := st_flag v 0 (by omega) (by omega); simpa [KK] using this
    have b2 : bits .and .u64 S 2147483647 = 0 := by rw [← hS]; have := st_waiters v 0 (by omega) (by omega); simpa [KK] using this
    have c1 : IntKind.i32.wrap (v : Int) = (v : Int) := by rw [IntKind.wrap_i32]; omega
    have w1 : IntKind.u64.wrap (S + 1) = S + 1 := by rw [IntKind.wrap_u64, ← hS]; simp only [KK]; omega
    have q3 : decide ((v : Int) < 0) = false := decide_eq_false (by omega)
    have q4 : decide (0 < (v : Int)) = true := decide_eq_true (by omega)
    have q5 : ((v : Int) == 0) = false := by simp; omega
    have q6 : decide ((v : Int) = 0) = false := decide_eq_false (by omega)
    rw [hS] at hw
    refine ⟨_, stepG_load_atomic (v := S) rfl rfl (by k_ne) rfl H.f_loadU64 (x_loadU64_n L) (x_loadU64_b L) (x_loadU64_x L) .u64 (x_loadU64_f L) rfl hw.cellSt, fun h0 => absurd h0 (by omega), fun _ => ⟨60, ?_⟩⟩
    clear hw
    walk_nrm
    iterate 2 (u_in hr hF; first | (rw [stepG_seq]; simp only [goes_go]; refine ⟨dg_nil, ?_⟩) | (rw [stepG_region]; simp only [goes_go, List.size_toArray, List.length_cons, List.length_nil, Nat.reduceAdd, Nat.zero_add, List.range, List.range.loop]; refine ⟨dg_nil, ?_⟩) | (rw [stepG_region_end]; simp only [goes_go]; refine ⟨dg_nil, ?_⟩) | (rw [stepG_cond (t := true) rfl]; simp only [goes_go, if_true, if_false, Bool.false_eq_true, ↓reduceIte]; refine ⟨dg_nil, ?_⟩) | (rw [stepG_cond (t := false) rfl]; simp only [goes_go, if_true, if_false, Bool.false_eq_true, ↓reduceIte]; refine ⟨dg_nil, ?_⟩) | (rw [stepG_skip]; simp only [goes_go]; refine ⟨dg_nil, ?_⟩) | (rw [stepG_unwanted rfl rfl]; simp only [goes_go]; refine ⟨dg_nil, ?_⟩; walk_nrm) | (refine goes_oper_k rfl rfl (by k_ne) (fun K hK => ?_); go_simp; refine hK _ _ ⟨?_, ?_⟩; (· (refine dg_none ?_; intro e he; have hm := mem_listed he; simp [go_sem, *] at hm)); clear hK K; try w_num))
    (u_in hr hF; rw [stepG_ret']; simp only [goes_go]; refine ⟨dg_nil, ?_⟩)
    (u_in hr hF; refine goes_leave1 rfl rfl H.f_uLoad rfl ⟨dg_nil, ?_⟩; walk_nrm)
    iterate 22 (u_in hr hF; first | (rw [stepG_seq]; simp only [goes_go]; refine ⟨dg_nil, ?_⟩) | (rw [stepG_region]; simp only [goes_go, List.size_toArray, List.length_cons, List.length_nil, Nat.reduceAdd, Nat.zero_add, List.range, List.range.loop]; refine ⟨dg_nil, ?_⟩) | (rw [stepG_region_end]; simp only [goes_go]; refine ⟨dg_nil, ?_⟩) | (rw [stepG_cond (t := true) rfl]; simp only [goes_go, if_true, if_false, Bool.false_eq_true, ↓reduceIte]; refine ⟨dg_nil, ?_⟩) | (rw [stepG_cond (t := false) rfl]; simp only [goes_go, if_true, if_false, Bool.false_eq_true, ↓reduceIte]; refine ⟨dg_nil, ?_⟩) | (rw [stepG_skip]; simp only [goes_go]; refine ⟨dg_nil, ?_⟩) | (rw [stepG_unwanted rfl rfl]; simp only [goes_go]; refine ⟨dg_nil, ?_⟩; walk_nrm) | (refine goes_oper_k rfl rfl (by k_ne) (fun K hK => ?_); go_simp; refine hK _ _ ⟨?_, ?_⟩; (· (refine dg_none ?_; intro e he; have hm := mem_listed he; simp [go_sem, *] at hm)); clear hK K; try w_num))
    (u_in hr hF; rw [stepG_cond (t := false) (by first | rfl | (simp [Act.eval]; omega))]; simp only [goes_go, if_true, if_false, Bool.false_eq_true, ↓reduceIte]; refine ⟨dg_nil, ?_⟩)
    iterate 9 (u_in hr hF; first | (rw [stepG_seq]; simp only [goes_go]; refine ⟨dg_nil, ?_⟩) | (rw [stepG_region]; simp only [goes_go, List.size_toArray, List.length_cons, List.length_nil, Nat.reduceAdd, Nat.zero_add, List.range, List.range.loop]; refine ⟨dg_nil, ?_⟩) | (rw [stepG_region_end]; simp only [goes_go]; refine ⟨dg_nil, ?_⟩) | (rw [stepG_cond (t := true) rfl]; simp only [goes_go, if_true, if_false, Bool.false_eq_true, ↓reduceIte]; refine ⟨dg_nil, ?_⟩) | (rw [stepG_cond (t := false) rfl]; simp only [goes_go, if_true, if_false, Bool.false_eq_true, ↓reduceIte]; refine ⟨dg_nil, ?_⟩) | (rw [stepG_skip]; simp only [goes_go]; refine ⟨dg_nil, ?_⟩) | (rw [stepG_unwanted rfl rfl]; simp only [goes_go]; refine ⟨dg_nil, ?_⟩; walk_nrm) | (refine goes_oper_k rfl rfl (by k_ne) (fun K hK => ?_); go_simp; refine hK _ _ ⟨?_, ?_⟩; (· (refine dg_none ?_; intro e he; have hm := mem_listed he; simp [go_sem, *] at hm)); clear hK K; try w_num))
    (u_in hr hF; refine goes_call rfl rfl (by k_ne) rfl H.f_uCas (nm_uCas L) rfl ⟨dg_nil, ?_⟩; walk_nrmf uCasFn)
    iterate 11 (u_in hr hF; first | (rw [stepG_seq]; simp only [goes_go]; refine ⟨dg_nil, ?_⟩) | (rw [stepG_region]; simp only [goes_go, List.size_toArray, List.length_cons, List.length_nil, Nat.reduceAdd, Nat.zero_add, List.range, List.range.loop]; refine ⟨dg_nil, ?_⟩) | (rw [stepG_region_end]; simp only [goes_go]; refine ⟨dg_nil, ?_⟩) | (rw [stepG_cond (t := true) rfl]; simp only [goes_go, if_true, if_false, Bool.false_eq_true, ↓reduceIte]; refine ⟨dg_nil, ?_⟩) | (rw [stepG_cond (t := false) rfl]; simp only [goes_go, if_true, if_false, Bool.false_eq_true, ↓reduceIte]; refine ⟨dg_nil, ?_⟩) | (rw [stepG_skip]; simp only [goes_go]; refine ⟨dg_nil, ?_⟩) | (rw [stepG_unwanted rfl rfl]; simp only [goes_go]; refine ⟨dg_nil, ?_⟩; walk_nrm) | (refine goes_oper_k rfl rfl (by k_ne) (fun K hK => ?_); go_simp; refine hK _ _ ⟨?_, ?_⟩; (· (refine dg_none ?_; intro e he; have hm := mem_listed he; simp [go_sem, *] at hm)); clear hK K; try w_num))
    refine Goes.stop (fun w₂ h₂ => ?_)
    replace hF := hr hF h₂
    clear h₂
    refine ⟨rfl, fun v' hv' hw => ⟨fun e => ?_, fun e => ?_⟩⟩
    · subst e
      rw [hS] at hw ⊢
      refine ⟨_, (stepG_cas_hit (v := S) (n := S + 1) rfl rfl (by k_ne) rfl H.f_casU64 (x_casU64_n L) (x_casU64_b L) (x_casU64_x L) .u64 (x_casU64_f L) rfl rfl rfl hw.cellSt (hw.thaw 0)).trans (by rfl), 70, ?_⟩
      replace hF : GrpF L Wg F (w₂.setCell (stA Wg) (.int .u64 (S + 1))) := ⟨hs _ _ _ rfl hF.1, ⟨_, _, hw.setSt _⟩⟩
      clear hw
      walk_nrm
      iterate 2 (u_in hr hF; first | (rw [stepG_seq]; simp only [goes_go]; refine ⟨dg_nil, ?_⟩) | (rw [stepG_region]; simp only [goes_go, List.size_toArray, List.length_cons, List.length_nil, Nat.reduceAdd, Nat.zero_add, List.range, List.range.loop]; refine ⟨dg_nil, ?_⟩) | (rw [stepG_region_end]; simp only [goes_go]; refine ⟨dg_nil, ?_⟩) | (rw [stepG_cond (t := true) rfl]; simp only [goes_go, if_true, if_false, Bool.false_eq_true, ↓reduceIte]; refine ⟨dg_nil, ?_⟩) | (rw [stepG_cond (t := false) rfl]; simp only [goes_go, if_true, if_false, Bool.false_eq_true, ↓reduceIte]; refine ⟨dg_nil, ?_⟩) | (rw [stepG_skip]; simp only [goes_go]; refine ⟨dg_nil, ?_⟩) | (rw [stepG_unwanted rfl rfl]; simp only [goes_go]; refine ⟨dg_nil, ?_⟩; walk_nrm) | (refine goes_oper_k rfl rfl (by k_ne) (fun K hK => ?_); go_simp; refine hK _ _ ⟨?_, ?_⟩; (· (refine dg_none ?_; intro e he; have hm := mem_listed he; simp [go_sem, *] at hm)); clear hK K; try w_num))
      (u_in hr hF; rw [stepG_ret']; simp only [goes_go]; refine ⟨dg_nil, ?_⟩)
      (u_in hr hF; refine goes_leave1 rfl rfl H.f_uCas rfl ⟨dg_nil, ?_⟩; walk_nrm)
      iterate 15 (u_in hr hF; first | (rw [stepG_seq]; simp only [goes_go]; refine ⟨dg_nil, ?_⟩) | (rw [stepG_region]; simp only [goes_go, List.size_toArray, List.length_cons, List.length_nil, Nat.reduceAdd, Nat.zero_add, List.range, List.range.loop]; refine ⟨dg_nil, ?_⟩) | (rw [stepG_region_end]; simp only [goes_go]; refine ⟨dg_nil, ?_⟩) | (rw [stepG_cond (t := true) rfl]; simp only [goes_go, if_true, if_false, Bool.false_eq_true, ↓reduceIte]; refine ⟨dg_nil, ?_⟩) | (rw [stepG_cond (t := false) rfl]; simp only [goes_go, if_true, if_false, Bool.false_eq_true, ↓reduceIte]; refine ⟨dg_nil, ?_⟩) | (rw [stepG_skip]; simp only [goes_go]; refine ⟨dg_nil, ?_⟩) | (rw [stepG_unwanted rfl rfl]; simp only [goes_go]; refine ⟨dg_nil, ?_⟩; walk_nrm) | (refine goes_oper_k rfl rfl (by k_ne) (fun K hK => ?_); go_simp; refine hK _ _ ⟨?_, ?_⟩; (· (refine dg_none ?_; intro e he; have hm := mem_listed he; simp [go_sem, *] at hm)); clear hK K; try w_num))
      (u_in hr hF; refine goes_oper_k rfl rfl (by k_ne) (fun Kx hKx => ?_); have hcv := run_convert_to_unsafe (P := P) H.underlying_tPU32 H.underlying_tUP H.room_tU32 (WgLive.cell1 hF.2).choose_spec; have hce := fun es => events_convert_to_unsafe (P := P) H.underlying_tPU32 H.underlying_tUP H.room_tU32 (WgLive.cell1 hF.2).choose_spec es; go_simp; refine hKx _ _ ⟨?_, ?_⟩; (· (refine dg_none ?_; intro ex hex; have hmx := mem_listed hex; simp [go_sem, hce] at hmx)); clear hKx Kx hcv hce)
      (u_in hr hF; rw [stepG_markAt .write (by simp) rfl rfl (by k_ne) rfl H.f_raceWrite (x_raceWrite_n L) (x_raceWrite_b L) (x_raceWrite_x L) (x_raceWrite_f L) (ad := ⟨_, 1, none⟩) (by simp [Act.eval] <;> rfl)]; simp only [goes_go]; refine ⟨⟨rfl, fun ex hex => ?_⟩, ?_⟩; (· (rw [Array.mem_singleton] at hex; subst hex; exact evG_write _ rfl)); walk_nrm)
      iterate 23 (u_in hr hF; first | (rw [stepG_seq]; simp only [goes_go]; refine ⟨dg_nil, ?_⟩) | (rw [stepG_region]; simp only [goes_go, List.size_toArray, List.length_cons, List.length_nil, Nat.reduceAdd, Nat.zero_add, List.range, List.range.loop]; refine ⟨dg_nil, ?_⟩) | (rw [stepG_region_end]; simp only [goes_go]; refine ⟨dg_nil, ?_⟩) | (rw [stepG_cond (t := true) rfl]; simp only [goes_go, if_true, if_false, Bool.false_eq_true, ↓reduceIte]; refine ⟨dg_nil, ?_⟩) | (rw [stepG_cond (t := false) rfl]; simp only [goes_go, if_true, if_false, Bool.false_eq_true, ↓reduceIte]; refine ⟨dg_nil, ?_⟩) | (rw [stepG_skip]; simp only [goes_go]; refine ⟨dg_nil, ?_⟩) | (rw [stepG_unwanted rfl rfl]; simp only [goes_go]; refine ⟨dg_nil, ?_⟩; walk_nrm) | (refine goes_oper_k rfl rfl (by k_ne) (fun K hK => ?_); go_simp; refine hK _ _ ⟨?_, ?_⟩; (· (refine dg_none ?_; intro e he; have hm := mem_listed he; simp [go_sem, *] at hm)); clear hK K; try w_num))
      refine Goes.stop (fun w₃ h₃ => ?_)
      replace hF := hr hF h₃
      clear h₃
      refine ⟨rfl, rfl, fun ⟨st, hw⟩ => stepG_semacquire_wait rfl rfl rfl H.f_semacquire (x_semacquire_n L) (x_semacquire_b L) (x_semacquire_x L) (x_semacquire_f L) (by simp [Act.eval, smA]) hw.cellSm, fun hf => ?_⟩
      refine ⟨_, (stepG_semacquire (n := 1) rfl rfl (by k_ne) rfl H.f_semacquire (x_semacquire_n L) (x_semacquire_b L) (x_semacquire_x L) (x_semacquire_f L) (by simp [Act.eval, smA]) hf.cellSm (by k_ne) (hf.thaw 1)).trans (by rfl), 30, ?_⟩
      replace hF : GrpF L Wg F (w₃.setCell (smA Wg) (.int .u32 0)) := ⟨hs _ _ _ rfl hF.1, ⟨_, _, hf.setSm 0⟩⟩
      clear hf
      walk_nrm
      iterate 6 (u_in hr hF; first | (rw [stepG_seq]; simp only [goes_go]; refine ⟨dg_nil, ?_⟩) | (rw [stepG_region]; simp only [goes_go, List.size_toArray, List.length_cons, List.length_nil, Nat.reduceAdd, Nat.zero_add, List.range, List.range.loop]; refine ⟨dg_nil, ?_⟩) | (rw [stepG_region_end]; simp only [goes_go]; refine ⟨dg_nil, ?_⟩) | (rw [stepG_cond (t := true) rfl]; simp only [goes_go, if_true, if_false, Bool.false_eq_true, ↓reduceIte]; refine ⟨dg_nil, ?_⟩) | (rw [stepG_cond (t := false) rfl]; simp only [goes_go, if_true, if_false, Bool.false_eq_true, ↓reduceIte]; refine ⟨dg_nil, ?_⟩) | (rw [stepG_skip]; simp only [goes_go]; refine ⟨dg_nil, ?_⟩) | (rw [stepG_unwanted rfl rfl]; simp only [goes_go]; refine ⟨dg_nil, ?_⟩; walk_nrm) | (refine goes_oper_k rfl rfl (by k_ne) (fun K hK => ?_); go_simp; refine hK _ _ ⟨?_, ?_⟩; (· (refine dg_none ?_; intro e he; have hm := mem_listed he; simp [go_sem, *] at hm)); clear hK K; try w_num))
      (u_in hr hF; refine goes_call rfl rfl (by k_ne) rfl H.f_uLoad (nm_uLoad L) rfl ⟨dg_nil, ?_⟩; walk_nrmf uLoadFn)
      iterate 9 (u_in hr hF; first | (rw [stepG_seq]; simp only [goes_go]; refine ⟨dg_nil, ?_⟩) | (rw [stepG_region]; simp only [goes_go, List.size_toArray, List.length_cons, List.length_nil, Nat.reduceAdd, Nat.zero_add, List.range, List.range.loop]; refine ⟨dg_nil, ?_⟩) | (rw [stepG_region_end]; simp only [goes_go]; refine ⟨dg_nil, ?_⟩) | (rw [stepG_cond (t := true) rfl]; simp only [goes_go, if_true, if_false, Bool.false_eq_true, ↓reduceIte]; refine ⟨dg_nil, ?_⟩) | (rw [stepG_cond (t := false) rfl]; simp only [goes_go, if_true, if_false, Bool.false_eq_true, ↓reduceIte]; refine ⟨dg_nil, ?_⟩) | (rw [stepG_skip]; simp only [goes_go]; refine ⟨dg_nil, ?_⟩) | (rw [stepG_unwanted rfl rfl]; simp only [goes_go]; refine ⟨dg_nil, ?_⟩; walk_nrm) | (refine goes_oper_k rfl rfl (by k_ne) (fun K hK => ?_); go_simp; refine hK _ _ ⟨?_, ?_⟩; (· (refine dg_none ?_; intro e he; have hm := mem_listed he; simp [go_sem, *] at hm)); clear hK K; try w_num))
      refine Goes.stop (fun w₄ h₄ => ?_)
      replace hF := hr hF h₄
      clear h₄
      refine ⟨rfl, fun hw => ⟨_, stepG_load_atomic (v := 0) rfl rfl (by k_ne) rfl H.f_loadU64 (x_loadU64_n L) (x_loadU64_b L) (x_loadU64_x L) .u64 (x_loadU64_f L) rfl hw.cellSt, 30, ?_⟩⟩
      clear hw
      walk_nrm
      iterate 2 (u_in hr hF; first | (rw [stepG_seq]; simp only [goes_go]; refine ⟨dg_nil, ?_⟩) | (rw [stepG_region]; simp only [goes_go, List.size_toArray, List.length_cons, List.length_nil, Nat.reduceAdd, Nat.zero_add, List.range, List.range.loop]; refine ⟨dg_nil, ?_⟩) | (rw [stepG_region_end]; simp only [goes_go]; refine ⟨dg_nil, ?_⟩) | (rw [stepG_cond (t := true) rfl]; simp only [goes_go, if_true, if_false, Bool.false_eq_true, ↓reduceIte]; refine ⟨dg_nil, ?_⟩) | (rw [stepG_cond (t := false) rfl]; simp only [goes_go, if_true, if_false, Bool.false_eq_true, ↓reduceIte]; refine ⟨dg_nil, ?_⟩) | (rw [stepG_skip]; simp only [goes_go]; refine ⟨dg_nil, ?_⟩) | (rw [stepG_unwanted rfl rfl]; simp only [goes_go]; refine ⟨dg_nil, ?_⟩; walk_nrm) | (refine goes_oper_k rfl rfl (by k_ne) (fun K hK => ?_); go_simp; refine hK _ _ ⟨?_, ?_⟩; (· (refine dg_none ?_; intro e he; have hm := mem_listed he; simp [go_sem, *] at hm)); clear hK K; try w_num))
      (u_in hr hF; rw [stepG_ret']; simp only [goes_go]; refine ⟨dg_nil, ?_⟩)
      (u_in hr hF; refine goes_leave1 rfl rfl H.f_uLoad rfl ⟨dg_nil, ?_⟩; walk_nrm)
      iterate 7 (u_in hr hF; first | (rw [stepG_seq]; simp only [goes_go]; refine ⟨dg_nil, ?_⟩) | (rw [stepG_region]; simp only [goes_go, List.size_toArray, List.length_cons, List.length_nil, Nat.reduceAdd, Nat.zero_add, List.range, List.range.loop]; refine ⟨dg_nil, ?_⟩) | (rw [stepG_region_end]; simp only [goes_go]; refine ⟨dg_nil, ?_⟩) | (rw [stepG_cond (t := true) rfl]; simp only [goes_go, if_true, if_false, Bool.false_eq_true, ↓reduceIte]; refine ⟨dg_nil, ?_⟩) | (rw [stepG_cond (t := false) rfl]; simp only [goes_go, if_true, if_false, Bool.false_eq_true, ↓reduceIte]; refine ⟨dg_nil, ?_⟩) | (rw [stepG_skip]; simp only [goes_go]; refine ⟨dg_nil, ?_⟩) | (rw [stepG_unwanted rfl rfl]; simp only [goes_go]; refine ⟨dg_nil, ?_⟩; walk_nrm) | (refine goes_oper_k rfl rfl (by k_ne) (fun K hK => ?_); go_simp; refine hK _ _ ⟨?_, ?_⟩; (· (refine dg_none ?_; intro e he; have hm := mem_listed he; simp [go_sem, *] at hm)); clear hK K; try w_num))
      refine Goes.stop (fun w₅ h₅ => ?_)
      replace hF := hr hF h₅
      clear h₅
      refine ⟨rfl, _, stepG_mark0 .enable (by simp) rfl rfl (by k_ne) rfl H.f_enable (x_enable_n L) (x_enable_b L) (x_enable_x L) (x_enable_f L), 12, ?_⟩
      walk_nrm
      iterate 3 (u_in hr hF; first | (rw [stepG_seq]; simp only [goes_go]; refine ⟨dg_nil, ?_⟩) | (rw [stepG_region]; simp only [goes_go, List.size_toArray, List.length_cons, List.length_nil, Nat.reduceAdd, Nat.zero_add, List.range, List.range.loop]; refine ⟨dg_nil, ?_⟩) | (rw [stepG_region_end]; simp only [goes_go]; refine ⟨dg_nil, ?_⟩) | (rw [stepG_cond (t := true) rfl]; simp only [goes_go, if_true, if_false, Bool.false_eq_true, ↓reduceIte]; refine ⟨dg_nil, ?_⟩) | (rw [stepG_cond (t := false) rfl]; simp only [goes_go, if_true, if_false, Bool.false_eq_true, ↓reduceIte]; refine ⟨dg_nil, ?_⟩) | (rw [stepG_skip]; simp only [goes_go]; refine ⟨dg_nil, ?_⟩) | (rw [stepG_unwanted rfl rfl]; simp only [goes_go]; refine ⟨dg_nil, ?_⟩; walk_nrm) | (refine goes_oper_k rfl rfl (by k_ne) (fun K hK => ?_); go_simp; refine hK _ _ ⟨?_, ?_⟩; (· (refine dg_none ?_; intro e he; have hm := mem_listed he; simp [go_sem, *] at hm)); clear hK K; try w_num))
      (u_in hr hF; refine goes_oper_k rfl rfl (by k_ne) (fun Kx hKx => ?_); have hcv := run_convert_to_unsafe (P := P) H.underlying_tWgP H.underlying_tUP H.room_tWg (WgLive.cell0 hF.2).choose_spec; have hce := fun es => events_convert_to_unsafe (P := P) H.underlying_tWgP H.underlying_tUP H.room_tWg (WgLive.cell0 hF.2).choose_spec es; go_simp; refine hKx _ _ ⟨?_, ?_⟩; (· (refine dg_none ?_; intro ex hex; have hmx := mem_listed hex; simp [go_sem, hce] at hmx)); clear hKx Kx hcv hce)
      refine Goes.stop (fun w₆ h₆ => ?_)
      replace hF := hr hF h₆
      clear h₆
      refine ⟨rfl, _, stepG_markAt .acquire (by simp) rfl rfl (by k_ne) rfl H.f_acquire (x_acquire_n L) (x_acquire_b L) (x_acquire_x L) (x_acquire_f L) (by simp [Act.eval, stA]), mT + 10, ?_⟩
      walk_nrm
      iterate 8 (u_in hr hF; first | (rw [stepG_seq]; simp only [goes_go]; refine ⟨dg_nil, ?_⟩) | (rw [stepG_region]; simp only [goes_go, List.size_toArray, List.length_cons, List.length_nil, Nat.reduceAdd, Nat.zero_add, List.range, List.range.loop]; refine ⟨dg_nil, ?_⟩) | (rw [stepG_region_end]; simp only [goes_go]; refine ⟨dg_nil, ?_⟩) | (rw [stepG_cond (t := true) rfl]; simp only [goes_go, if_true, if_false, Bool.false_eq_true, ↓reduceIte]; refine ⟨dg_nil, ?_⟩) | (rw [stepG_cond (t := false) rfl]; simp only [goes_go, if_true, if_false, Bool.false_eq_true, ↓reduceIte]; refine ⟨dg_nil, ?_⟩) | (rw [stepG_skip]; simp only [goes_go]; refine ⟨dg_nil, ?_⟩) | (rw [stepG_unwanted rfl rfl]; simp only [goes_go]; refine ⟨dg_nil, ?_⟩; walk_nrm) | (refine goes_oper_k rfl rfl (by k_ne) (fun K hK => ?_); go_simp; refine hK _ _ ⟨?_, ?_⟩; (· (refine dg_none ?_; intro e he; have hm := mem_listed he; simp [go_sem, *] at hm)); clear hK K; try w_num))
      (u_in hr hF; rw [stepG_ret']; simp only [goes_go]; refine ⟨dg_nil, ?_⟩)
      (u_in hr hF; refine goes_leave0 rfl rfl H.f_wait rfl ⟨dg_nil, ?_⟩; walk_nrm)
      exact (hT _ hF).mono (by omega)
    · refine ⟨_, stepG_cas_miss (v := (v' : Int) * KK) (old := S) (n := S + 1) rfl rfl (by k_ne) rfl H.f_casU64 (x_casU64_n L) (x_casU64_b L) (x_casU64_x L) .u64 (x_casU64_f L) rfl rfl rfl hw.cellSt (hw.thaw 0) (by rw [← hS]; simp only [KK]; omega), 20, ?_⟩
      clear hw
      walk_nrm
      iterate 2 (u_in hr hF; first | (rw [stepG_seq]; simp only [goes_go]; refine ⟨dg_nil, ?_⟩) | (rw [stepG_region]; simp only [goes_go, List.size_toArray, List.length_cons, List.length_nil, Nat.reduceAdd, Nat.zero_add, List.range, List.range.loop]; refine ⟨dg_nil, ?_⟩) | (rw [stepG_region_end]; simp only [goes_go]; refine ⟨dg_nil, ?_⟩) | (rw [stepG_cond (t := true) rfl]; simp only [goes_go, if_true, if_false, Bool.false_eq_true, ↓reduceIte]; refine ⟨dg_nil, ?_⟩) | (rw [stepG_cond (t := false) rfl]; simp only [goes_go, if_true, if_false, Bool.false_eq_true, ↓reduceIte]; refine ⟨dg_nil, ?_⟩) | (rw [stepG_skip]; simp only [goes_go]; refine ⟨dg_nil, ?_⟩) | (rw [stepG_unwanted rfl rfl]; simp only [goes_go]; refine ⟨dg_nil, ?_⟩; walk_nrm) | (refine goes_oper_k rfl rfl (by k_ne) (fun K hK => ?_); go_simp; refine hK _ _ ⟨?_, ?_⟩; (· (refine dg_none ?_; intro e he; have hm := mem_listed he; simp [go_sem, *] at hm)); clear hK K; try w_num))
      (u_in hr hF; rw [stepG_ret']; simp only [goes_go]; refine ⟨dg_nil, ?_⟩)
      (u_in hr hF; refine goes_leave1 rfl rfl H.f_uCas rfl ⟨dg_nil, ?_⟩; walk_nrm)
      iterate 3 (u_in hr hF; first | (rw [stepG_seq]; simp only [goes_go]; refine ⟨dg_nil, ?_⟩) | (rw [stepG_region]; simp only [goes_go, List.size_toArray, List.length_cons, List.length_nil, Nat.reduceAdd, Nat.zero_add, List.range, List.range.loop]; refine ⟨dg_nil, ?_⟩) | (rw [stepG_region_end]; simp only [goes_go]; refine ⟨dg_nil, ?_⟩) | (rw [stepG_cond (t := true) rfl]; simp only [goes_go, if_true, if_false, Bool.false_eq_true, ↓reduceIte]; refine ⟨dg_nil, ?_⟩) | (rw [stepG_cond (t := false) rfl]; simp only [goes_go, if_true, if_false, Bool.false_eq_true, ↓reduceIte]; refine ⟨dg_nil, ?_⟩) | (rw [stepG_skip]; simp only [goes_go]; refine ⟨dg_nil, ?_⟩) | (rw [stepG_unwanted rfl rfl]; simp only [goes_go]; refine ⟨dg_nil, ?_⟩; walk_nrm) | (refine goes_oper_k rfl rfl (by k_ne) (fun K hK => ?_); go_simp; refine hK _ _ ⟨?_, ?_⟩; (· (refine dg_none ?_; intro e he; have hm := mem_listed he; simp [go_sem, *] at hm)); clear hK K; try w_num))
      (u_in hr hF; rw [stepG_inBlock]; simp only [goes_go]; refine ⟨dg_nil, ?_⟩)
      (u_in hr hF; rw [stepG_inLoop]; simp only [goes_go]; refine ⟨dg_nil, ?_⟩)
      exact Goes.stop (fun w₃ h₃ => ⟨_, rfl, by simp, by simp, hr hF h₃⟩)
end
end Go.Proofs.YtmphfdibijbjeaaDoor
