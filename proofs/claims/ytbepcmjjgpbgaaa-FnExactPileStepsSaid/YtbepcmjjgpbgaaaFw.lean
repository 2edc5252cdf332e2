/- Closed facts about the whole program that hang on the words of its head alone: the head's text is taken as a list of signs, so that nothing runs over its bytes. -/
import Derived.Test.YtbepcmjjgpbgaaaRows
import Derived.ProofKit
import Derived.OpenShut
import Derived.JoinedOf
namespace Go.Proofs.Ytbepcmjjgpbgaaa
theorem ws_space (r : List Char) : wordsSigns (Char.ofNat 32 :: r) = [] :: wordsSigns r := rfl
theorem ws_char (c : Char) (h : c ≠ Char.ofNat 32) (r : List Char) : wordsSigns (c :: r) = (match wordsSigns r with | w :: ws => (c :: w) :: ws | [] => [[c]]) := by
  rw [wordsSigns]
  · rfl
  · exact h
theorem ws_word : ∀ (w r : List Char), (w.all fun c => c != Char.ofNat 32) = true → wordsSigns (w ++ Char.ofNat 32 :: r) = w :: wordsSigns r
  | [], r, _ => ws_space r
  | c :: w, r, h => by
    simp only [List.all_cons, Bool.and_eq_true, bne_iff_ne] at h
    rw [List.cons_append, ws_char c h.1, ws_word w r h.2]
/-- does the head begin with a harness, its sum and a cut? -/
def headOk (L : List Char) : Bool :=
  L.take 8 == "harness".toList ++ [Char.ofNat 32] && ((L.drop 8).take 64).all (fun c => c != Char.ofNat 32) && isSumSigns ((L.drop 8).take 64) && (L.drop 72).take 5 == Char.ofNat 32 :: ("cut".toList ++ [Char.ofNat 32])
theorem words_of (s : String) (L : List Char) (h : s = String.ofList L) (hc : headOk L = true) : ∃ rest, behindMainWord (wordsSigns s.toList) = "cut".toList :: rest := by
  subst h
  rw [String.toList_ofList]
  simp only [headOk, Bool.and_eq_true, beq_iff_eq] at hc
  obtain ⟨⟨⟨h1, h2⟩, h3⟩, h4⟩ := hc
  have e : L = "harness".toList ++ Char.ofNat 32 :: ((L.drop 8).take 64 ++ Char.ofNat 32 :: ("cut".toList ++ Char.ofNat 32 :: L.drop 77)) := by
    have e1 := List.take_append_drop 8 L
    have e2 := List.take_append_drop 64 (L.drop 8)
    have e3 := List.take_append_drop 5 (L.drop 72)
    rw [List.drop_drop] at e2 e3
    rw [h1] at e1
    rw [h4] at e3
    conv => lhs; rw [← e1, ← e2, ← e3]
    simp
  generalize (L.drop 8).take 64 = S at *
  generalize L.drop 77 = r at *
  rw [e, ws_word _ _ (by decide), ws_word _ _ h2, ws_word _ _ (by decide)]
  refine ⟨wordsSigns r, ?_⟩
  unfold behindMainWord
  simp only [h3]
  rfl
theorem main_of (P : Program) (S L : List Char) (h : P.initOrder = String.ofList L) (hc : headOk L = true) (hS : (L.drop 8).take 64 = S) : P.mainIs = some (true, S) := by
  unfold Program.mainIs
  rw [h, String.toList_ofList]
  clear h
  subst hS
  simp only [headOk, Bool.and_eq_true, beq_iff_eq] at hc
  obtain ⟨⟨⟨h1, h2⟩, h3⟩, h4⟩ := hc
  have e : L = "harness".toList ++ Char.ofNat 32 :: ((L.drop 8).take 64 ++ Char.ofNat 32 :: ("cut".toList ++ Char.ofNat 32 :: L.drop 77)) := by
    have e1 := List.take_append_drop 8 L
    have e2 := List.take_append_drop 64 (L.drop 8)
    have e3 := List.take_append_drop 5 (L.drop 72)
    rw [List.drop_drop] at e2 e3
    rw [h1] at e1
    rw [h4] at e3
    conv => lhs; rw [← e1, ← e2, ← e3]
    simp
  generalize (L.drop 8).take 64 = S at *
  generalize L.drop 77 = r at *
  rw [e, ws_word _ _ (by decide), ws_word _ _ h2, ws_word _ _ (by decide)]
  simp only [h3]
  rfl
set_option maxRecDepth 100000 in
theorem fact_words : ∃ rest, behindMainWord (wordsSigns Try.prog.initOrder.toList) = "cut".toList :: rest := words_of _ _ rfl (by kernel_rfl)
theorem enter_of (P : Program) (rest : List (List Char)) (h : behindMainWord (wordsSigns P.initOrder.toList) = "cut".toList :: rest) (h1 : P.laysLater = false) (h2 : P.bearsReflect = false) (h3 : P.doorFits [] = true) : P.mayEnter = true := by
  have e1 : (stripLifts liftWords ("cut".toList :: rest)).1 = [] := by rfl
  have e2 : (stripLifts liftWords ("cut".toList :: rest)).2 = "cut".toList :: rest := by rfl
  unfold Program.mayEnter
  rw [h]
  simp only [e1, e2, h1, h2, h3]
  rfl
theorem lifts_of (P : Program) (rest : List (List Char)) (h : behindMainWord (wordsSigns P.initOrder.toList) = "cut".toList :: rest) : P.liftsFinal = false := by
  have e1 : (stripLifts liftWords ("cut".toList :: rest)).1 = [] := by rfl
  have e2 : (stripLifts liftWords ("cut".toList :: rest)).2 = "cut".toList :: rest := by rfl
  unfold Program.liftsFinal Program.headLifts
  rw [h]
  simp only [e1, e2]
  rfl
theorem make_of (P : Program) (rest : List (List Char)) (h : behindMainWord (wordsSigns P.initOrder.toList) = "cut".toList :: rest) : P.make = some .cut := by
  unfold Program.make
  rw [h]
  rfl
theorem fact_lays : Try.prog.laysLater = false := by kernel_rfl
theorem fact_bears : Try.prog.bearsReflect = false := by kernel_rfl
theorem fact_door : Try.prog.doorFits [] = true := by kernel_rfl
theorem fact_enter : Try.prog.mayEnter = true := fact_words.elim fun r h => enter_of _ r h fact_lays fact_bears fact_door
theorem fact_lifts : Try.prog.liftsFinal = false := fact_words.elim fun r h => lifts_of _ r h
theorem fact_make : Try.prog.make = some .cut := fact_words.elim fun r h => make_of _ r h
end Go.Proofs.Ytbepcmjjgpbgaaa
