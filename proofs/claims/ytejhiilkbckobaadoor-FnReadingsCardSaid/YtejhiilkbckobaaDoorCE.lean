/- The draws of chapter 4 (package spec): DrawPlaceRead, DrawPlaceReadings. -/
import Derived.Test.YtejhiilkbckobaaDoorCD
namespace Go.Proofs.YtejhiilkbckobaaDoor
open Go.RowKit
set_option linter.unusedVariables false
set_option maxRecDepth 100000
theorem placeOfR_two (n : Int) : ∃ (x : ByteArray) (b : Bool), placeOfR n = .tuple #[.string x, .bool b] ∧ x.size ≤ 300 := by
  unfold placeOfR
  split
  · rename_i h
    refine ⟨_, _, rfl, ?_⟩
    have := (clay_short n.toNat (by omega)).2
    have e : (⟨(clay n.toNat).toArray⟩ : ByteArray).size = (clay n.toNat).length := by show (clay n.toNat).toArray.size = _; simp
    omega
  · exact ⟨_, _, rfl, by decide⟩
theorem drawPlaceRead_any (a : Option Addr) (len cap : Nat) (zs : List Int) (w : World) (h : IsRow .u8 w a len cap zs) :
    Calls Tryd.prog 12 #[.slice a len cap] w fun e w' => ∃ x : ByteArray, x.size ≤ 300 ∧ e = .returned (.string x) ∧ Below w.heap.size w w' := by
  have H := Lib.hid h; clear h
  go_enter Tryd.func12, Tryd.ntmps12
  go_wp2_with fail
  refine (l6Open_any a len cap zs _ H.out).mono ?_
  rintro e w1 ⟨a', l, c, rfl, hr, g1⟩
  have H1 := Lib.hid hr; clear hr
  go_wp2_with fail
  refine (l92Sixty_any _ a' l c 0 _ H1.out (by omega)).mono ?_
  rintro e w2 ⟨n, p', hn0, hn1, rfl, hr2, hp', g2⟩
  have H2 := Lib.hid hr2; have G2 := Lib.hid g2; clear hr2 g2
  obtain ⟨x, b, hx, hxs⟩ := placeOfR_two n
  have Hx := Lib.hid hx; clear hx
  go_wp2_with fail
  refine (sPlaceOf_any n _).mono ?_
  rw [Hx.out]
  rintro e w3 ⟨rfl, rfl⟩
  cases b with
  | false =>
    have hrow := strRow_new w2 [⟨#[]⟩, ⟨#[89, 60]⟩, ⟨#[89, 32, 32, 89]⟩, ⟨#[32, 89]⟩, ⟨#[46, 32, 89]⟩, ⟨#[89, 89, 89, 89, 89, 89, 89, 89, 89, 89]⟩, ⟨#[60, 60, 60, 60, 60, 60]⟩, ⟨#[89, 32]⟩, ⟨#[120]⟩] 9 (by decide) (0, 0)
    have HRow := Lib.hid hrow; clear hrow
    go_wp2_with fail
    refine (of_any _ a' l c p' w2.heap.size 9 _ (H2.out.alloc _) HRow.out (by have := lt_of_block' H2.out.blk; omega) (by omega) (by omega) (by omega)).mono ?_
    rintro e w4 ⟨z, hz, rfl, hr4, g4⟩
    have G4 := Lib.hid (grown_trans G2.out (grown_trans (World.grownBy_alloc w2 _ (some _)) g4)); clear hr4 g4
    go_wp2_with fail
    go_ret
    exact ⟨z, by omega, rfl, bel_grown g1 G4.out g1.size (Nat.le_refl _)⟩
  | true =>
    go_wp2_with fail
    refine (pick_any _ a' l c p' _ _ H2.out (by omega) (by omega) (by omega)).mono ?_
    rintro e w3 ⟨u, hu0, hu1, rfl, hr3, g3⟩
    have H3 := Lib.hid hr3; have G3 := Lib.hid (grown_trans G2.out g3); clear hr3 g3
    by_cases hu : u = 0
    · subst hu
      have hrow := strRow_new w3 [⟨#[]⟩, ⟨#[89, 60]⟩, ⟨#[89, 32, 32, 89]⟩, ⟨#[32, 89]⟩, ⟨#[46, 32, 89]⟩, ⟨#[89, 89, 89, 89, 89, 89, 89, 89, 89, 89]⟩, ⟨#[60, 60, 60, 60, 60, 60]⟩, ⟨#[89, 32]⟩, ⟨#[120]⟩] 9 (by decide) (0, 0)
      have HRow := Lib.hid hrow; clear hrow
      go_wp2_with fail
      refine (of_any _ a' l c (p' + 1) w3.heap.size 9 _ (H3.out.alloc _) HRow.out (by have := lt_of_block' H3.out.blk; omega) (by omega) (by omega) (by omega)).mono ?_
      rintro e w4 ⟨z, hz, rfl, hr4, g4⟩
      have G4 := Lib.hid (grown_trans G3.out (grown_trans (World.grownBy_alloc w3 _ (some _)) g4)); clear hr4 g4
      go_wp2_with fail
      go_ret
      exact ⟨z, by omega, rfl, bel_grown g1 G4.out g1.size (Nat.le_refl _)⟩
    · go_wp2_with fail
      go_ret
      exact ⟨x, hxs, rfl, bel_grown g1 G3.out g1.size (Nat.le_refl _)⟩
theorem drawPlaceReadings_any (a : Option Addr) (len cap : Nat) (zs : List Int) (w : World) (h : IsRow .u8 w a len cap zs) :
    Calls Tryd.prog 19 #[.slice a len cap] w fun e w' => ∃ x : ByteArray, x.size ≤ 300 ∧ e = .returned (.string x) ∧ Below w.heap.size w w' := by
  have H := Lib.hid h; clear h
  go_enter Tryd.func19, Tryd.ntmps19
  go_wp2_with fail
  refine (l6Open_any a len cap zs _ H.out).mono ?_
  rintro e w1 ⟨a', l, c, rfl, hr, g1⟩
  have H1 := Lib.hid hr; have G1 := Lib.hid g1; clear hr g1
  go_wp2_with fail
  refine (pick_any _ a' l c 0 _ _ H1.out (by omega) (by omega) (by omega)).mono ?_
  rintro e w2 ⟨n, hn0, hn1, rfl, hr2, g2⟩
  have H2 := Lib.hid hr2; have G2 := Lib.hid g2; clear hr2 g2
  go_wp2_with fail
  go_loopw [4, 6] (fun s i wr => ∃ (k : Nat) (y : ByteArray) (p' : Nat), i = .int .i64 k ∧ (k : Int) ≤ 1 + n ∧ s = .string y ∧ y.size ≤ 30 * k ∧ Rd wr w.heap.size a' l c p' ∧ p' = 1 + k ∧ w1.grownBy wr (some w.heap.size)) (fun _ i _ => 8 - (intOf i).toNat)
  case atStart => exact ⟨0, ⟨#[]⟩, 1, rfl, by omega, rfl, by decide, H2.out, rfl, G2.out⟩
  case round =>
    clear H1 H2 G2
    obtain ⟨k, y, p', rfl, hk, rfl, hy, hr, hp', g⟩ := hrel
    have hp2 : p' ≤ 10 := by omega
    have HR := Lib.hid hr; have G := Lib.hid g; have Hp' := Lib.hid hp'; clear hr g hp'
    by_cases hlt : (k : Int) < 1 + n
    · have hrow := strRow_new wr [⟨#[60]⟩, ⟨#[89]⟩] 9 (by decide) (0, 0)
      have HRow := Lib.hid hrow; clear hrow
      go_wp2_with fail
      refine (of_any _ a' l c p' wr.heap.size 2 _ (HR.out.alloc _) HRow.out (by have := lt_of_block' HR.out.blk; omega) (by omega) (by omega) (by omega)).mono ?_
      rintro e w3 ⟨z, hz, rfl, hr3, g3⟩
      have H3 := Lib.hid hr3; have G3 := Lib.hid (grown_trans G.out (grown_trans (World.grownBy_alloc wr _ (some _)) g3)); clear hr3 g3
      have hyz : y.size + z.size ≤ 9223372036854775807 := by omega
      have hyz2 : Hid ((y ++ z).size ≤ 30 * (k + 1)) := by show _ ≤ _; rw [ByteArray.size_append]; omega
      go_wp2_with fail
      go_roundw
      case rel => exact ⟨k + 1, y ++ z, p' + 1, by go_num, by omega, rfl, hyz2.out, H3.out, by have := Hp'.out; omega, G3.out⟩
      case measure => simp [intOf]; omega
    · go_wp2_with fail
      refine (pick_any _ a' l c p' _ _ HR.out (by omega) (by omega) (by omega)).mono ?_
      rintro e w3 ⟨u, hu0, hu1, rfl, hr3, g3⟩
      have H3 := Lib.hid hr3; have G3 := Lib.hid (grown_trans G.out g3); clear hr3 g3
      by_cases hu : u = 0
      · subst hu
        have hrow := strRow_new w3 [⟨#[120]⟩, ⟨#[89, 89, 89, 89, 89, 89, 89, 89, 89]⟩, ⟨#[32]⟩] 9 (by decide) (0, 0)
        have HRow := Lib.hid hrow; clear hrow
        go_wp2_with fail
        refine (of_any _ a' l c (p' + 1) w3.heap.size 3 _ (H3.out.alloc _) HRow.out (by have := lt_of_block' H3.out.blk; omega) (by omega) (by omega) (by omega)).mono ?_
        rintro e w4 ⟨z, hz, rfl, hr4, g4⟩
        have G4 := Lib.hid (grown_trans G3.out (grown_trans (World.grownBy_alloc w3 _ (some _)) g4)); clear hr4 g4
        have hyz : y.size + z.size ≤ 9223372036854775807 := by omega
        have hyz2 : Hid ((y ++ z).size ≤ 300) := by show _ ≤ _; rw [ByteArray.size_append]; omega
        go_wp2_with fail
        go_ret
        exact ⟨y ++ z, hyz2.out, rfl, bel_grown G1.out G4.out G1.out.size (Nat.le_refl _)⟩
      · go_wp2_with fail
        go_ret
        exact ⟨y, by omega, rfl, bel_grown G1.out G3.out G1.out.size (Nat.le_refl _)⟩
end Go.Proofs.YtejhiilkbckobaaDoor
