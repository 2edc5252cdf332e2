/- A slice of integers that a call made by append: its block may hold spare places. -/
import Derived.Test.YtgcalmenlcpjpaaDoorBL
namespace Go.Proofs.YtgcalmenlcpjpaaDoor
open Go.RowKit
set_option linter.unusedVariables false
set_option maxRecDepth 100000
/-- a block whose first n cells are these integers -/
def Row (w : World) (b n : Nat) (f : Nat → Int) : Prop := ∃ c : Array Value, w.heap[b]? = some (.cells c 3 (0, 0)) ∧ ∀ k, k < n → c[k]? = some (.int .i64 (f k))
theorem Row.lt {w : World} {b n : Nat} {f : Nat → Int} (h : Row w b n f) : b < w.heap.size := by obtain ⟨c, h, _⟩ := h; exact lt_of_block' h
theorem Row.cell {w : World} {b n : Nat} {f : Nat → Int} (h : Row w b n f) (k : Nat) (hk : k < n) : w.cell? ⟨b, k, none⟩ = some (.int .i64 (f k)) := by
  obtain ⟨c, h, hc⟩ := h; exact cell_at h (hc k hk)
theorem Row.frozen {w : World} {b n : Nat} {f : Nat → Int} (h : Row w b n f) (k : Nat) : w.frozen? ⟨b, k, none⟩ = false := by
  obtain ⟨c, h, hc⟩ := h; simp [World.frozen?, h]
theorem Row.congr {w : World} {b n : Nat} {f g : Nat → Int} (h : Row w b n f) (e : ∀ k, k < n → f k = g k) : Row w b n g := by
  obtain ⟨c, h, hc⟩ := h; exact ⟨c, h, fun k hk => by rw [hc k hk, e k hk]⟩
theorem Row.ls {w : World} {b n : Nat} {f : Nat → Int} (h : Row w b n f) : Ls w (some ⟨b, 0, none⟩) n f := fun k hk =>
  ⟨b, 0, rfl, h.lt, by rw [Nat.zero_add]; exact h.cell k hk⟩
theorem Row.keep {w w' : World} {b n : Nat} {f : Nat → Int} (h : Row w b n f) (e : w'.heap[b]? = w.heap[b]?) : Row w' b n f := by
  obtain ⟨c, h, hc⟩ := h; exact ⟨c, e.trans h, hc⟩
theorem Row.below {w w' : World} {b n : Nat} {f : Nat → Int} (h : Row w b n f) (g : Below w.heap.size w w') : Row w' b n f := h.keep (g.block b h.lt)
theorem Row.set_ {w : World} {b n : Nat} {f : Nat → Int} (h : Row w b n f) (k : Nat) (x : Int) : Row (w.setCell ⟨b, k, none⟩ (.int .i64 x)) b n (fun j => if j = k then x else f j) := by
  obtain ⟨c, h, hc⟩ := h
  refine ⟨_, heap_setCell_same w b k _ _ _ h, fun j hj => ?_⟩
  have hj' := (Array.getElem?_eq_some_iff.1 (hc j hj)).1
  by_cases e : j = k
  · subst e; simp [hj']
  · rw [Array.getElem?_setIfInBounds_ne (Ne.symm e)]
    simp only [if_neg e]
    exact hc j hj
theorem Own.row {w : World} {b n : Nat} {f : Nat → Int} (h : Own w b n f) : Row w b n f := ⟨_, h, fun k hk => by rw [List.getElem?_toArray]; exact intCells_at f n k hk⟩
/-- a slice that a call made -/
def Rsp (w : World) (lo hi : Nat) (a : Option Addr) (n : Nat) (f : Nat → Int) : Prop := n = 0 ∨ ∃ b, a = some ⟨b, 0, none⟩ ∧ lo ≤ b ∧ b < hi ∧ Row w b n f
theorem Res.rsp {w : World} {lo hi n : Nat} {a : Option Addr} {f : Nat → Int} (h : Res w lo hi a n f) : Rsp w lo hi a n f := by
  rcases h with rfl | ⟨b, rfl, h1, h2, h⟩
  · exact .inl rfl
  · exact .inr ⟨b, rfl, h1, h2, h.row⟩
theorem Rsp.ls {w : World} {lo hi n : Nat} {a : Option Addr} {f : Nat → Int} (h : Rsp w lo hi a n f) : Ls w a n f := by
  rcases h with rfl | ⟨b, rfl, _, _, h⟩
  · exact Ls.none_ _ _ _
  · exact h.ls
theorem Rsp.congr {w : World} {lo hi n : Nat} {a : Option Addr} {f g : Nat → Int} (h : Rsp w lo hi a n f) (e : ∀ k, k < n → f k = g k) : Rsp w lo hi a n g := by
  rcases h with rfl | ⟨b, rfl, h1, h2, h⟩
  · exact .inl rfl
  · exact .inr ⟨b, rfl, h1, h2, h.congr e⟩
theorem Rsp.mono {w : World} {lo hi lo' hi' n : Nat} {a : Option Addr} {f : Nat → Int} (h : Rsp w lo hi a n f) (h1 : lo' ≤ lo) (h2 : hi ≤ hi') : Rsp w lo' hi' a n f := by
  rcases h with rfl | ⟨b, rfl, g1, g2, h⟩
  · exact .inl rfl
  · exact .inr ⟨b, rfl, by omega, by omega, h⟩
theorem Rsp.below {w w' : World} {lo hi n : Nat} {a : Option Addr} {f : Nat → Int} (h : Rsp w lo hi a n f) (g : Below w.heap.size w w') : Rsp w' lo hi a n f := by
  rcases h with rfl | ⟨b, rfl, h1, h2, h⟩
  · exact .inl rfl
  · exact .inr ⟨b, rfl, h1, h2, h.below g⟩
theorem Rsp.mid {w w' : World} {lo hi lo' hi' n : Nat} {a : Option Addr} {f : Nat → Int} (h : Rsp w lo hi a n f) (g : Mid lo' hi' w w') (hd : hi ≤ lo' ∨ hi' ≤ lo) : Rsp w' lo hi a n f := by
  rcases h with rfl | ⟨b, rfl, h1, h2, h⟩
  · exact .inl rfl
  · exact .inr ⟨b, rfl, h1, h2, h.keep (g.block b (by omega))⟩
theorem Rsp.none_ (w : World) (lo hi : Nat) (a : Option Addr) (f : Nat → Int) : Rsp w lo hi a 0 f := .inl rfl
/-- a row grown by append -/
theorem Rsp.of_own {w : World} {base n : Nat} {v : Value} {ys : List Int} (h : w.ownsRow base 3 1 v n (ys.map (Value.int .i64))) :
    ∃ a cap, v = .slice a n cap ∧ n = ys.length ∧ Rsp w base w.heap.size a n (fun k => ys.getD k 0) := by
  have hl := h.1
  rw [List.length_map, Nat.mul_one] at hl
  rcases h.2 with ⟨rfl, rfl⟩ | ⟨g, cap, cur, rfl, hb, hg, h1, h2, h3, h4⟩
  · exact ⟨none, 0, rfl, hl.symm, .inl rfl⟩
  · refine ⟨_, _, rfl, hl.symm, .inr ⟨g, rfl, hb, lt_of_block' hg, cur, hg, fun k hk => ?_⟩⟩
    have e : (cur.toList.take (n * 1))[k]? = (ys.map (Value.int .i64))[k]? := by rw [h4]
    rw [List.getElem?_take_of_lt (by omega), List.getElem?_map, Array.getElem?_toList] at e
    rw [e, List.getElem?_eq_getElem (by omega)]
    simp [List.getD_eq_getElem?_getD, List.getElem?_eq_getElem (show k < ys.length by omega)]
set_option maxHeartbeats 400000 in
theorem markIntS_row (lo hi : Nat) (a : Option Addr) (n c : Nat) (f : Nat → Int) (k0 : Nat) (w : World) (h : Rsp w lo hi a n f) (hn : n ≤ 10000000) (hk0 : k0 ≤ 1000000000) :
    Calls Tryd.prog 38 #[.slice a n c, .int .i64 k0] w fun e w' => e = .returned (.int .i64 ((k0 + n : Nat) : Int)) ∧ Rsp w' lo hi a n (fun j => (k0 : Int) + j) ∧ Mid lo hi w w' := by
  have H := Lib.hid h; clear h
  go_enter Tryd.func38, Tryd.ntmps38
  go_wp2_with fail
  go_loopw [1, 5] (fun x i wr => ∃ k : Nat, i = .int .i64 k ∧ x = .int .i64 ((k0 : Int) + k) ∧ k ≤ n ∧ Rsp wr lo hi a n (fun j => if j < k then (k0 : Int) + j else f j) ∧ Mid lo hi w wr) (fun _ i _ => n - (intOf i).toNat)
  case atStart => exact ⟨0, rfl, by simp, by omega, H.out.congr fun j hj => by simp, Mid.refl _ _ _⟩
  case round =>
    obtain ⟨k, rfl, rfl, hk, hres, hmid⟩ := hrel
    by_cases hlt : k < n
    · rcases hres with h0 | ⟨b, rfl, hb1, hb2, hown⟩
      · omega
      have Ho := Lib.hid hown; have Hm := Lib.hid hmid
      obtain ⟨v0, hv0⟩ : ∃ v0, wr.cell? ⟨b, k, none⟩ = some v0 := ⟨_, hown.cell k hlt⟩
      have hfr := hown.frozen k
      clear hown hmid
      have HR : Hid (Rsp (wr.setCell ⟨b, k, none⟩ (.int .i64 ((k0 : Int) + k))) lo hi (some ⟨b, 0, none⟩) n (fun j => if j < k + 1 then (k0 : Int) + j else f j)) :=
        .inr ⟨b, rfl, hb1, hb2, (Ho.out.set_ k ((k0 : Int) + k)).congr fun j hj => by
          by_cases e : j = k
          · subst e; simp
          · rw [if_neg e]
            by_cases h2 : j < k
            · rw [if_pos h2, if_pos (by omega)]
            · rw [if_neg h2, if_neg (by omega)]⟩
      go_wp2_with fail
      go_roundw
      case rel => exact ⟨k + 1, by go_num, by go_num, by omega, HR.out, Hm.out.setCell hb1 hb2 _ _⟩
      case measure => simp [intOf]; omega
    · obtain rfl : k = n := by omega
      have Hr := Lib.hid hres; have Hm := Lib.hid hmid
      clear hres hmid
      go_wp2_with fail
      go_ret
      exact ⟨ret_int (by omega), Hr.out.congr fun j hj => by simp [hj], Hm.out⟩
/-- the answer of a call that returns a list and a bool -/
def RowR (w w' : World) (f : Nat → Int) (n : Nat) (ok : Bool) (e : Ending) : Prop :=
  ∃ (a : Option Addr) (m c : Nat), e = .returned (.tuple #[.slice a m c, .bool ok]) ∧ m = (if ok = true then n else 0) ∧ Rsp w' w.heap.size w'.heap.size a m f ∧ Below w.heap.size w w'
end Go.Proofs.YtgcalmenlcpjpaaDoor
