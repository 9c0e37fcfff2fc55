/- greatest and Family, by their contracts. -/
import Derived.Test.YtlgdnbpboonhdaaF5
import Derived.Lib.JoinLaws
import Derived.Laws.EntriesVeiled
namespace Go.Proofs.Ytlgdnbpboonhdaa
open Go.RowKit Go.Shelf Go.Maps
set_option linter.unusedVariables false
attribute [local go_sem] Oper.semAt_some
theorem make22 (n : Nat) (h : n ≤ 100000) (w : World) : (Instr.makeSlice 22 (.int .i64 0) (.int .i64 (n : Int))).run Try.prog w = .ok (.slice (some ⟨w.heap.size, 0, none⟩) 0 n) (w.alloc (.cells (madeCells #[.int .i64 0] n) 3)) :=
  run_make_room 22 3 (.int .i64 0) 8 Try.underlying22 Try.info3 rfl .i64 .i64 n (by omega) (by omega) w
set_option maxRecDepth 100000 in
theorem greatest80 (mb nn : Nat) (p : Option Addr) (u : Value) (fi : List Nat) (g : Nat × Nat → Option Nat) (w : World) (hm : ClMap w mb nn g) (hu : Reads w u (ints fi)) (hcap : CapOk u) (hf : ∀ m ∈ fi, m < 1000) (hl : fi.length ≤ 12) :
    Calls Try.prog 80 #[.agg #[.pointer p, u, .map (some mb)]] w fun e w' => ∃ v, e = .returned v ∧ (Reads w' v (ints (searchL g [] fi [])) ∧ CapOk v) ∧ Ext w w' := by
  obtain ⟨hl2, a, cap, rfl⟩ := hu.shape
  rw [ints_length] at hl2 hu hcap ⊢
  have hmk := make22 fi.length (by omega)
  have HM := Lib.hid hm; have HU := Lib.hid hu; have HCAP := Lib.hid hcap; have HF := Lib.hid hf
  clear hm hu hcap hf
  go_enter Try.func80, Try.ntmps80
  go_wp2_with fail
  have hE : Ext w ((((w.alloc (.cells #[.pointer p, .slice a fi.length cap, .map (some mb)] 93)).alloc (.cells (madeCells #[.int .i64 0] fi.length) 3)).alloc (.cells #[.slice (some ⟨w.heap.size + 1, 0, none⟩) 0 fi.length] 22)).alloc
      (.cells #[.func (.func 102) #[] #[.pointer (some ⟨w.heap.size + 1 + 1, 0, none⟩), .pointer (some ⟨w.heap.size, 0, none⟩), .pointer (some ⟨w.heap.size + 1 + 1 + 1, 0, none⟩)]] 110)) := ((((Ext.refl w).alloc _).alloc _).alloc _).alloc _
  have hA := block_ext ((Ext.refl _).alloc (.cells #[.func (.func 102) #[] #[.pointer (some ⟨w.heap.size + 1 + 1, 0, none⟩), .pointer (some ⟨w.heap.size, 0, none⟩), .pointer (some ⟨w.heap.size + 1 + 1 + 1, 0, none⟩)]] 110)) (block_ext ((Ext.refl _).alloc (.cells #[.slice (some ⟨w.heap.size + 1, 0, none⟩) 0 fi.length] 22)) (block_ext ((Ext.refl _).alloc (.cells (madeCells #[.int .i64 0] fi.length) 3)) (heap_alloc_new w (.cells #[.pointer p, .slice a fi.length cap, .map (some mb)] 93))))
  have hX := block_ext ((Ext.refl _).alloc (.cells #[.func (.func 102) #[] #[.pointer (some ⟨w.heap.size + 1 + 1, 0, none⟩), .pointer (some ⟨w.heap.size, 0, none⟩), .pointer (some ⟨w.heap.size + 1 + 1 + 1, 0, none⟩)]] 110)) (block_ext ((Ext.refl _).alloc (.cells #[.slice (some ⟨w.heap.size + 1, 0, none⟩) 0 fi.length] 22)) (heap_alloc_new (w.alloc (.cells #[.pointer p, .slice a fi.length cap, .map (some mb)] 93)) (.cells (madeCells #[.int .i64 0] fi.length) 3)))
  have hB := Boxed.alloc (Boxed.new ((w.alloc (.cells #[.pointer p, .slice a fi.length cap, .map (some mb)] 93)).alloc (.cells (madeCells #[.int .i64 0] fi.length) 3)) 22 (.slice (some ⟨w.heap.size + 1, 0, none⟩) 0 fi.length)) (.cells #[.func (.func 102) #[] #[.pointer (some ⟨w.heap.size + 1 + 1, 0, none⟩), .pointer (some ⟨w.heap.size, 0, none⟩), .pointer (some ⟨w.heap.size + 1 + 1 + 1, 0, none⟩)]] 110)
  have hS := Boxed.new (((w.alloc (.cells #[.pointer p, .slice a fi.length cap, .map (some mb)] 93)).alloc (.cells (madeCells #[.int .i64 0] fi.length) 3)).alloc (.cells #[.slice (some ⟨w.heap.size + 1, 0, none⟩) 0 fi.length] 22)) 110 (.func (.func 102) #[] #[.pointer (some ⟨w.heap.size + 1 + 1, 0, none⟩), .pointer (some ⟨w.heap.size, 0, none⟩), .pointer (some ⟨w.heap.size + 1 + 1 + 1, 0, none⟩)])
  simp only [World.size_alloc] at hX hB hS
  generalize (((w.alloc (.cells #[.pointer p, .slice a fi.length cap, .map (some mb)] 93)).alloc (.cells (madeCells #[.int .i64 0] fi.length) 3)).alloc (.cells #[.slice (some ⟨w.heap.size + 1, 0, none⟩) 0 fi.length] 22)).alloc
      (.cells #[.func (.func 102) #[] #[.pointer (some ⟨w.heap.size + 1 + 1, 0, none⟩), .pointer (some ⟨w.heap.size, 0, none⟩), .pointer (some ⟨w.heap.size + 1 + 1 + 1, 0, none⟩)]] 110) = W at *
  have hctx : Ctx W (w.heap.size + 1 + 1) w.heap.size (w.heap.size + 1 + 1 + 1) mb nn p (.slice a fi.length cap) g := ⟨hA, hS, HM.out.ext hE⟩
  have hbest : BestAt W (w.heap.size + 1 + 1) (w.heap.size + 1) fi.length [] := ⟨hB, by simp, (madeCells #[.int .i64 0] fi.length).toList, by simpa using hX, by simp [size_madeCells], by simp [ints]⟩
  have hrs : ∀ b, b < w.heap.size → b ∉ [w.heap.size + 1 + 1, w.heap.size + 1] := fun b hb hm => by simp at hm; omega
  have hrn : RN [w.heap.size + 1 + 1, w.heap.size + 1] W (.slice a fi.length cap) fi := ⟨HU.out.ext hE, HCAP.out, fun b off n c e hne => by
    obtain ⟨b', off', e', -, hc⟩ := HU.out.atN (k := 0) (m := fi[0]'(List.length_pos_iff.2 hne)) (by simp)
    have e1 := (Value.slice.inj e).1
    rw [e'] at e1
    cases e1
    exact hrs _ (lt_of_cell hc)⟩
  have hnil : RN [w.heap.size + 1 + 1, w.heap.size + 1] W (.slice none 0 0) [] := ⟨Reads.nil _, ⟨_, _, _, rfl, Nat.le_refl _⟩, fun b off n c e => by cases e⟩
  have H := search102 (w.heap.size + 1 + 1) (w.heap.size + 1) fi.length w.heap.size (w.heap.size + 1 + 1 + 1) mb nn p (.slice a fi.length cap) g (by omega) (by simp; omega) (by simp; omega) (hrs _ HM.out.lt) (by omega) fi.length fi [] [] _ _ W rfl HF.out (by simp) (by simp) hctx hbest hnil hrn
  have HH := Lib.hid H; have HE := Lib.hid hE
  clear H hctx hbest hrn hnil hrs hA hX hB hS hE hmk
  refine HH.out.mono ?_
  rintro e w5 ⟨rfl, hb5, hk5⟩
  have hres : updL [] [] = [] := rfl
  rw [hres] at hb5
  have c5 := hb5.1.cell
  have hN5 := hb5.2.1
  have HB5 := Lib.hid hb5
  have hE5 : Ext w w5 := ⟨hk5.os.trans HE.out.os, hk5.tape.trans HE.out.tape, hk5.output.trans HE.out.output, Nat.le_trans HE.out.size hk5.size, fun k hk => (hk5.block k (Nat.lt_of_lt_of_le hk HE.out.size) (fun hm => by simp at hm; omega)).trans (HE.out.block k hk)⟩
  have HE5 := Lib.hid hE5
  clear hb5 hk5 hE5 hres
  go_wp2
  go_ret
  exact ⟨_, rfl, ⟨HB5.out.reads (by omega), ⟨_, _, _, rfl, hN5⟩⟩, HE5.out⟩
end Go.Proofs.Ytlgdnbpboonhdaa
