/- BoomMosts, by its contract. -/
import Derived.Test.YtppjnpempgpkaaaS6
import Derived.Test.YtppjnpempgpkaaaR7
import Derived.Test.YtppjnpempgpkaaaH7
import Derived.Test.YtppjnpempgpkaaaH6
import Derived.Test.YtppjnpempgpkaaaN3
import Derived.Test.YtppjnpempgpkaaaK1
namespace Go.Proofs.Ytppjnpempgpkaaa
open Go.RowKit Go.Shelf
set_option linter.unusedVariables false
set_option linter.unusedSimpArgs false
attribute [local go_sem] Oper.semAt_some

theorem most_any (s x y : Int) : ∃ a b c r : Int, (∀ X : World, Calls Try.prog 30 #[.int .i64 s, .int .i64 x, .int .i64 y] X fun e w' => e = .returned (.tuple #[.int .i64 a, .int .i64 b, .int .i64 c, .int .i64 r]) ∧ Ext X w') ∧ (∀ X : World, Calls Try.prog 31 #[.int .i64 s, .int .i64 x, .int .i64 y] X fun e w' => e = .returned (.tuple #[.int .i64 a, .int .i64 b, .int .i64 c, .int .i64 r]) ∧ Ext X w') := by
  cases h : inn 1 8 [x, y] with
  | false => exact ⟨0, 0, 0, 3, fun X => most_range s x y X h, fun X => (rmost_range s x y X h).mono fun e w' ⟨h1, h2⟩ => ⟨h1, by rw [h2]; exact Ext.refl _⟩⟩
  | true =>
    by_cases hs : s < 4
    · exact ⟨0, 0, 0, 5, fun X => most_none s x y X h hs, fun X => (rmost_none s x y X h hs).mono fun e w' ⟨h1, h2⟩ => ⟨h1, by rw [h2]; exact Ext.refl _⟩⟩
    · obtain ⟨hx, hy⟩ := in_box h
      obtain ⟨W, rfl⟩ : ∃ W : Nat, x = W := ⟨x.toNat, by omega⟩
      obtain ⟨H, rfl⟩ : ∃ H : Nat, y = H := ⟨y.toNat, by omega⟩
      exact ⟨_, _, _, 0, fun X => most_ok s W H X (by omega) (by omega) (by omega), fun X => (rmost_ok s W H X (by omega) (by omega) (by omega)).mono fun e w' ⟨h1, h2⟩ => ⟨h1, by rw [h2]; exact Ext.refl _⟩⟩
set_option maxRecDepth 100000 in
set_option maxHeartbeats 4000000 in
theorem mosts_c (s x y : Int) (w : World) : Calls Try.prog 6 #[.int .i64 s, .int .i64 x, .int .i64 y] w fun e w' => e = .returned (.bool true) ∧ Ext w w' := by
  obtain ⟨a, b, c, r, h1, h2⟩ := most_any s x y
  have H1 := Lib.hid h1; have H2 := Lib.hid h2
  clear h1 h2
  go_enter Try.func6, Try.ntmps6
  go_wp2_with fail
  refine (H1.out _).mono ?_
  rintro e w1 ⟨rfl, hE1⟩
  go_wp2_with fail
  refine (H2.out _).mono ?_
  rintro e w2 ⟨rfl, hE2⟩
  go_wp2_with fail
  refine (works_c _).mono ?_
  rintro e wz ⟨rfl, hz⟩
  go_wp2
  go_ret
  exact ⟨rfl, (hE1.trans hE2).trans hz⟩
end Go.Proofs.Ytppjnpempgpkaaa
