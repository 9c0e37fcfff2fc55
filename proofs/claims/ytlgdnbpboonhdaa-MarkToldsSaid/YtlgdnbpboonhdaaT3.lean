/- Free, by its contract. -/
import Derived.Test.YtlgdnbpboonhdaaT2
namespace Go.Proofs.Ytlgdnbpboonhdaa
open Go.RowKit Go.Shelf Go.Maps
set_option linter.unusedVariables false
attribute [local go_sem] Oper.semAt_some
def freeT (ms : List Nat) (L : Nat) : Nat → Bool := noteTo ms L (fun _ => true) ms.length
def freeL (S L : Nat) (ms : List Nat) : List Nat := pickL 1 (full S) fun m => untakenB m L (freeT ms L)
theorem ent77 (args : Array Value) (W : World) : (callFunc 77 args).run Try.prog W = .ok (.enter 77 args) W := by simp [callFunc, Try.func77, go_sem]; rfl
theorem ent76 (args : Array Value) (W : World) : (callFunc 76 args).run Try.prog W = .ok (.enter 76 args) W := by simp [callFunc, Try.func76, go_sem]; rfl
set_option maxRecDepth 10000 in
theorem free35_ok (S L : Nat) (ms : List Nat) (v : Value) (w : World) (hv : Valid S L ms) (hr : Reads w v (ints ms)) :
    Calls Try.prog 35 #[.agg #[.int .i64 (S : Int), .int .i64 (L : Int), v]] w fun e w' => ∃ u, e = .returned (.tuple #[u, .int .i64 0]) ∧ Reads w' u (ints (freeL S L ms)) ∧ Ext w w' := by
  obtain ⟨hl, a, cap, rfl⟩ := hr.shape
  have E0 := Lib.hid ((Ext.refl w).alloc (.cells #[.int .i64 (S : Int), .int .i64 (L : Int), .slice a (ints ms).length cap] 24))
  have P0 := Lib.hid (OffAt.new w (.int .i64 S) (.int .i64 L) (.slice a (ints ms).length cap) 24)
  have HO := Lib.hid (open_ok S L ms _ (.slice none 0 0) [] _ hv (hr.ext E0.out) (Reads.nil _) rfl)
  have HR := Lib.hid hr; have HV := Lib.hid hv
  have hS1 := hv.1
  have hS2 := hv.2.1
  have hF := full_lt S hv.2.1
  clear hr hv
  go_enter Try.func35, Try.ntmps35
  go_wp2_with fail
  refine HO.out.mono ?_
  rintro e w' ⟨b, bt, rfl, hb1, hb2, hbne, ho, h3, hrow, hb⟩
  have HB := Lib.hid (E0.out.trans hb)
  have HT := Lib.hid (open_reg (HR.out.ext E0.out) hb ho h3 hrow)
  have HBT := Lib.hid hb2
  have PB := Lib.hid (P0.out.ext hb)
  clear hb ho h3 hrow hb1 hb2 hbne
  go_wp2_with fail
  refine (note75 b S L bt ms _ _ 76 #[] (fun _ => true) _ HV.out HT.out ent76 (fun i W _ _ => any76_calls i W)).mono ?_
  rintro e w2 ⟨rfl, hT2, hG2⟩
  have hk2 := KeepsCells.turned HT.out.2.2 hG2
  have g1 := hk2 _ _ _ (fun t e => by cases e) PB.out.1
  have g2 := hk2 _ _ _ (fun t e => by cases e) PB.out.2.1
  have g3 := hk2 _ _ _ (fun t e => by cases e) PB.out.2.2
  have HT2 := Lib.hid hT2
  have HE2 := Lib.hid (grown_new HB.out hG2 (by have := HBT.out; simp at this; omega))
  clear hT2 hG2 hk2
  go_wp2_with fail
  refine (allStrokes_any S _ _ _ hS1 hS2).mono ?_
  rintro e w3 ⟨rfl, hb⟩
  have HT3 := Lib.hid (HT2.out.ext hb); have HE3 := Lib.hid (HE2.out.trans hb)
  clear hb
  go_wp2_with fail
  refine (pick59 77 #[.pointer (some ⟨b, 0, none⟩)] #[] 1 (full S) (full S : Int) (fun m => untakenB m L (freeT ms L)) _ (by omega) (by omega) (by omega) ent77 (fun i W hi hW => by
    simpa [freeT] using untaken77 b S L bt (1 + i) ms _ _ W HV.out (HT3.out.ext hW) (by omega))).mono ?_
  rintro e w4 ⟨u, rfl, hru, hb4⟩
  have HRU := Lib.hid hru; have HB4 := Lib.hid (HE3.out.trans hb4); clear hru hb4
  go_wp2
  go_ret2
  exact ⟨u, rfl, HRU.out, HB4.out⟩
theorem free35_err (S L : Int) (xs : List Int) (v : Value) (w : World) (hr : Reads w v xs) (hc : chk S L xs ≠ 0) :
    Calls Try.prog 35 #[.agg #[.int .i64 S, .int .i64 L, v]] w fun e w' => e = .returned (.tuple #[.slice none 0 0, .int .i64 (chk S L xs)]) ∧ Ext w w' := by
  obtain ⟨hl, a, cap, rfl⟩ := hr.shape
  have E0 := Lib.hid ((Ext.refl w).alloc (.cells #[.int .i64 S, .int .i64 L, .slice a xs.length cap] 24))
  have H := Lib.hid (open_err S L xs _ (.slice none 0 0) _ (hr.ext E0.out) hc)
  clear hr
  obtain ⟨c, hc'⟩ : ∃ c, c = chk S L xs := ⟨_, rfl⟩
  rw [← hc'] at hc H ⊢
  have hd : (c != 0) = true := by simpa using hc
  clear hc hc'
  go_enter Try.func35, Try.ntmps35
  go_wp2_with fail
  refine H.out.mono ?_
  rintro e w' ⟨rfl, hb⟩
  have HB := Lib.hid (E0.out.trans hb); clear hb
  go_wp2
  go_ret2
  exact ⟨rfl, HB.out⟩
end Go.Proofs.Ytlgdnbpboonhdaa
