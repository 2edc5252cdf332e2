/- The program's value of a signed pile; signedOf. -/
import Derived.Test.YtgcalmenlcpjpaaDoorEF
import Derived.Test.YtgcalmenlcpjpaaDoorTD
namespace Go.Proofs.YtgcalmenlcpjpaaDoor
open Go.RowKit
set_option linter.unusedVariables false
set_option maxRecDepth 100000
theorem build_sg (q : Nat → Int) (w : World) : (Instr.build 50 #[(0, .agg (arr6 q))]).run Tryd.prog w = .ok (.agg (sgA q (fun _ => false))) w := by kernel_rfl
theorem field_sg (p : Nat → Int) (t : Nat → Bool) (w : World) : (Instr.field 50 (.agg (sgA p t)) 0).run Tryd.prog w = .ok (.agg (arr6 p)) w := by kernel_rfl
/-- a number, or the error that there is none -/
def NumR (w : World) (x : Int) (B : Bool) (e : Ending) (w' : World) : Prop := ∃ E, e = .returned (.tuple #[.int .i64 x, E]) ∧ ErrOf B E ∧ Below w.heap.size w w'
def rngB (V : Int) : Bool := decide (-1000000 ≤ V ∧ V ≤ 1000000)
def rngR (V : Int) : Int := if rngB V = true then V else 0
theorem NumR.mkN {w w' : World} {x : Int} {E : Value} {V : Int} (h : ∃ s, E = errV s) (hB : rngB V = false) (hw : Below w.heap.size w w') : NumR w (rngR V) (rngB V) (.returned (.tuple #[.int .i64 0, E])) w' := ⟨E, by unfold rngR; rw [hB]; rfl, .inr ⟨hB, h⟩, hw⟩
theorem NumR.mkY {w w' : World} {V : Int} (hB : rngB V = true) (hw : Below w.heap.size w w') : NumR w (rngR V) (rngB V) (.returned (.tuple #[.int .i64 V, .nilIface])) w' := ⟨_, by unfold rngR; rw [hB]; rfl, .inl ⟨hB, rfl⟩, hw⟩
set_option maxHeartbeats 1000000 in
theorem svalue_any (p : Nat → Int) (t : Nat → Bool) (f : Nat → Int) (n : Nat) (w : World) (hs : SysF f n) (hn : n ≤ 6) (hf : ∀ j, j < n → f j ≤ 1000000) (hp : ∀ j, j < n → -1000000 ≤ p j ∧ p j ≤ 1000000) :
    Calls Tryd.prog 49 #[.agg (sgA p t), .agg (arr7 f n)] w (NumR w (rngR (val f (nmb p t) n)) (rngB (val f (nmb p t) n))) := by
  have hq : ∀ j, j < n → -1000000 ≤ nmb p t j ∧ nmb p t j ≤ 1000000 := fun j hj => by
    obtain ⟨h1, h2⟩ := hp j hj
    unfold nmb; split <;> omega
  have Bd := Lib.hid (fun k hk => val_bds (p := nmb p t) hs.pos hf (fun j hj => (hq j hj).1) (fun j hj => (hq j hj).2) hn k hk)
  have C := Lib.hid (fun w => slist_any p t f n w hn (fun j hj => by have := hp j hj; omega))
  clear hs hf hp hq
  obtain ⟨w1, hw1, hb1, hb2, hbel, hsz⟩ := boxes w (sgA p t) (arr7 f n) 50 41
  have HS1 : Hid (Sg w1 w.heap.size p t) := Lib.hid hb1
  have HY1 : Hid (Blk 41 w1 (w.heap.size + 1) 7 (sysF f n)) := Lib.hid hb2
  have HB := Lib.hid hbel
  have Hsz := Lib.hid hsz
  have HA : Hid (sgA p t = (vals (sgV p t) 12).toArray) := Lib.hid rfl
  have HA2 := Lib.hid (sg_all p t)
  have HC : Hid (arr7 f n = (intCells (sysF f n) 7).toArray) := Lib.hid rfl
  clear hb1 hb2 hbel hsz
  generalize arr7 f n = Y at *
  generalize sgA p t = A at *
  generalize nmb p t = q at *
  have Hw1 := Lib.hid hw1
  clear hw1
  go_enter Tryd.func49, Tryd.ntmps49
  go_wp2_with (first
    | ((with_reducible refine here ⟨some 9, _, _, _, _, _⟩ ?_)
       rw [← Hw1.out]
       refine wpList_load_vals rfl 50 (.tmp 2) rfl 50 w.heap.size 12 0 12 _ _ rfl HS1.out (by omega) Tryd.underlying50 rfl szSg ?_
       rw [HA2.out])
    | ((with_reducible refine here ⟨some 10, _, _, _, _, _⟩ ?_)
       refine wpList_load_blk rfl 41 (.tmp 3) rfl 41 (w.heap.size + 1) 7 _ _ rfl HY1.out Tryd.underlying41 rfl szSys ?_
       rw [← HC.out]))
  refine (C.out _).mono ?_
  rintro e w2 ⟨b, rfl, hb, hb', hown, hbl⟩
  have HO := Lib.hid hown
  have HL := Lib.hid (HB.out.trans (hbl.mono (by rw [Hsz.out]; omega)))
  have HY2 := Lib.hid (HY1.out.below hbl)
  clear hown hbl hb'
  go_wp2_with fail
  go_loop [6, 13] (fun x i => ∃ k : Nat, i = .int .i64 k ∧ k ≤ n ∧ x = .int .i64 (val f q k)) (fun _ i => n - (intOf i).toNat)
  case atStart => exact ⟨0, rfl, by omega, rfl⟩
  case round =>
    obtain ⟨k, rfl, hk, rfl⟩ := hrel
    obtain ⟨v1, v2, v3⟩ := Bd.out k hk
    by_cases hlt : k < n
    · obtain ⟨v3, v4⟩ := v3 hlt
      have hc1 : w2.cell? ⟨b, k, none⟩ = some (.int .i64 (q k)) := HO.out.cell k hlt
      have hc2 : w2.cell? ⟨w.heap.size + 1, k, none⟩ = some (.int .i64 (f k)) := by
        have h := HY2.out.cell k (by omega)
        rw [sysF_at f n k hlt] at h; exact h
      have hk6 : k < 6 := by omega
      have Hst : Hid (val f q (k + 1) = val f q k + f k * q k) := Lib.hid rfl
      generalize val f q k = s at *
      generalize f k = x at *
      generalize q k = y at *
      have hcm : y * x = x * y := Int.mul_comm y x
      have hw1 : IntKind.i64.wrap (x * y) = x * y := IntWalk.i64_in _ (by omega)
      have hw2 : IntKind.i64.wrap (s + x * y) = s + x * y := IntWalk.i64_in _ (by omega)
      go_wp2_with fail
      go_round
      case rel => exact ⟨k + 1, by go_num, by omega, by rw [Hst.out]⟩
      case measure => simp [intOf]; omega
    · obtain rfl : k = n := by omega
      clear v3
      generalize val f q k = s at *
      by_cases h1 : s < -1000000
      · have HR : Hid (rngB s = false) := Lib.hid (decide_eq_false (by omega))
        go_wp2_with fail
        go_ret2
        exact NumR.mkN (x := 0) ⟨_, rfl⟩ HR.out HL.out
      · by_cases h2 : 1000000 < s
        · have HR : Hid (rngB s = false) := Lib.hid (decide_eq_false (by omega))
          have h1' : -1000000 ≤ s := by omega
          go_wp2_with fail
          go_ret2
          exact NumR.mkN (x := 0) ⟨_, rfl⟩ HR.out HL.out
        · have HR : Hid (rngB s = true) := Lib.hid (decide_eq_true (by omega))
          have h1' : -1000000 ≤ s := by omega
          have h2' : s ≤ 1000000 := by omega
          go_wp2_with fail
          go_ret2
          exact NumR.mkY HR.out HL.out
end Go.Proofs.YtgcalmenlcpjpaaDoor
