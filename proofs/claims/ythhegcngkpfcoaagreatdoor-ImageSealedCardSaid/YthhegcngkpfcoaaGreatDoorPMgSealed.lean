/- For every input (any bytes, what follows) the law ImageSealed returns true and each argument reads afterwards as it did before; under the row's own conditions, the table of widths read as its initialiser lays it and tied to the program's text. -/
import Derived.Test.YthhegcngkpfcoaaGreatDoorF1
import Derived.Test.YthhegcngkpfcoaaGreatDoorF51
namespace Go.Proofs.YthhegcngkpfcoaaGreatDoor
open Go Go.ChangeShapes Go.WideShapes Go.ChangeAt Go.RowKit
namespace PMgSealed

theorem own : ownKnob Tryz.prog.godebug = none := by kernel_rfl
set_option maxRecDepth 100000 in
theorem contract (H : Type) (enc : TypeId × Value → H) (W : World) (base : Nat) (args : Array Value) (ds gs : List (DataW H)) (before : List MemPlace)
    (hval : ∀ (j : Nat) t v, Tryz.f4.params[j]? = some t → args[j]? = some v → Value.okWide Tryz.prog W .any base t v)
    (hW : DataW.Whole enc Tryz.prog Tryz.f4.params.toList Rows.imageSealedSpec.vars false W args.toList ds gs before) (hL : laidMetH Tryz.prog Rows.imageSealedRow.laid W) :
    Calls Tryz.prog 4 args W fun e W' => ∃ v, e = .returned v ∧ Rows.imageSealedSpec.post enc Tryz.prog Tryz.f4 false true false false W args v W' := by
  have hW' := hW
  obtain ⟨p, q, hA0, hV, hpq, hfz, hnd⟩ := hW
  have hA : DataW.TrodAll enc Tryz.prog W 0 (fun _ => true) true Tryz.f4.params.toList args.toList ds p := hA0
  rw [Tryz.params4] at hA hval
  obtain ⟨rfl, rfl⟩ := trodVars_none hV
  clear hA0 hV hfz hnd hpq
  obtain ⟨v0, v1, d0, d1, p0, p1, rfl, rfl, rfl, h0, h1⟩ := trodAll_two hA
  obtain ⟨l, hl⟩ := arg_bytes (hval 0 27 v0 rfl rfl) h0
  obtain ⟨m, hm⟩ := arg_bytes (hval 1 27 v1 rfl rfl) h1
  refine (law_sealedM v0 v1 l m W hl hm (mVars_of hL)).mono fun e W' ⟨he, ha⟩ => ⟨_, he, ?_⟩
  exact law_post hW' rfl ha rfl rfl (by kernel_rfl) (by
    intro t ht
    rw [Tryz.params4] at ht
    have hall : ∀ t ∈ [27, 27], Tryz.prog.readableRec t = true ∧ t < Tryz.prog.types.size := by decide +kernel
    exact hall t ht)

/-- A world for the witness: the settled one, the table holding what its initialiser lays. -/
noncomputable def laidWorld (os : Os) : World :=
  let w0 := World.holding Tryz.prog os ⟨#[], #[], []⟩
  { w0 with heap := (w0.heap.modify 1 fun
      | .cells _ t frozen => .cells #[.int .i64 1, .int .i64 2, .int .i64 4, .int .i64 8] t frozen
      | o => o).modify 0 fun
      | .cells _ t frozen => .cells #[.int .u8 108, .int .u8 105, .int .u8 110, .int .u8 101] t frozen
      | o => o }
theorem laid_met (os : Os) : laidMet Tryz.prog Rows.imageSealedRow.laid ((laidWorld os).forCall (fun _ _ => 0) ⟨#[], #[.slice none 0 0, .slice none 0 0], []⟩).memory :=
  laidMet_of_run' 8 (by kernel_rfl) (by kernel_rfl)
theorem reads (os : Os) {H : Type} (enc : TypeId × Value → H) : ∃ places, DataW.whole enc Tryz.prog ((laidWorld os).forCall (fun _ _ => 0) ⟨#[], #[.slice none 0 0, .slice none 0 0], []⟩).memory Tryz.f4.params.toList Rows.imageSealedSpec.vars false (#[.slice none 0 0, .slice none 0 0] : Array Value).toList 8 = some ([.nil, .nil], [], places) :=
  ⟨[], by kernel_rfl⟩

set_option maxRecDepth 100000 in
theorem lifted (os : Os) (started : os.Started) (H : Type) (enc : TypeId × Value → H) (F : Stop.Interp) :
    ReturnsInHanded {} Tryz.checked os 4 .any ((OpenSpec.ofChange Rows.imageSealedSpec).preRow enc Tryz.prog Tryz.f4 Rows.imageSealedRow.domain false Rows.imageSealedRow.laid) (((OpenSpec.ofChange Rows.imageSealedSpec).at F).post enc Tryz.prog Tryz.f4 false true false false) := by
  obtain ⟨places, hx⟩ := reads os enc
  refine returnsInHanded_of_row (C := Tryz.checked) (s := OpenSpec.ofChange Rows.imageSealedSpec) own started (by kernel_rfl) Tryz.func4
    (witness_row_at (enc := enc) (C := Tryz.checked) false (laidWorld os) #[.slice none 0 0, .slice none 0 0] rfl (by kernel_rfl) (by kernel_rfl) (by kernel_rfl)
      (OpenSpec.preRow_of_cond 8 hx (by kernel_rfl) (fun k hk => by cases hk) (by kernel_rfl) (laid_met os))) ?_
  intro W base args ds gs before hval hW _ _ _ hL _ _
  exact contract H enc W base args ds gs before hval hW hL

theorem said : Rows.ImageSealedSaid :=
  OpenClaim.holds_of_cond 4 Tryz.f4 rfl rfl rfl rfl rfl rfl rfl ⟨rfl, rfl, rfl, rfl, rfl⟩ rfl rfl rfl rfl rfl (by kernel_rfl) Tryz.func4 (by kernel_rfl)
    (of_decide_eq_true (by kernel_rfl)) (by unfold Func.isWrapper; first | (rw [if_pos (by decide +kernel)]; kernel_rfl) | (rw [if_neg (by decide +kernel)]; exact ⟨rfl, rfl⟩))
    (fun os started H enc _ F => by rw [OpenClaim.pre_eq_preRow]; exact lifted os started H enc F)

theorem plain (f : FuncId) (fn : Func) (hf : Tryz.pinned.checked.prog.funcNamed "linesman/linesmanlaw10.ImageSealed" = some f) (hfn : Tryz.pinned.checked.prog.funcs[f]? = some fn) :
    true = Tryz.pinned.checked.prog.looks [] ∧ ∀ (j : Nat) t, fn.params[j]? = some t → Tryz.pinned.checked.prog.wantsStandIn t = false := by
  obtain rfl : f = 4 := Option.some.inj ((show Tryz.prog.funcNamed "linesman/linesmanlaw10.ImageSealed" = some 4 by kernel_rfl).symm.trans hf) |>.symm
  obtain rfl : fn = Tryz.f4 := (Option.some.inj (Tryz.func4.symm.trans hfn)).symm
  refine ⟨by kernel_rfl, fun j t ht => ?_⟩
  rw [Tryz.params4] at ht
  have hm := Array.mem_of_getElem? ht
  have hall : ∀ t ∈ [27, 27], Tryz.prog.wantsStandIn t = false := by decide +kernel
  exact hall t (by simpa using hm)
end PMgSealed

theorem imageSealed_holds : Rows.ImageSealedCardSaid :=
  Claim7.holds_tied_plain_at .later [] _ _ _ _ PMgSealed.said (fun _ h => by cases h) (by kernel_rfl) (fun _ h => by cases h) imageSealed_row_tie rfl ⟨rfl, rfl⟩ (by kernel_rfl) rfl PMgSealed.plain (by kernel_rfl)
end Go.Proofs.YthhegcngkpfcoaaGreatDoor
