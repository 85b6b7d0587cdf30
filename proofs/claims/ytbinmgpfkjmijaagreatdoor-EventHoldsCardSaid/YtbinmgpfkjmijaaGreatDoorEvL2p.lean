/- What the law EventHolds asks. -/
import Derived.Test.YtbinmgpfkjmijaaGreatDoorEvWk
import Derived.Test.YtbinmgpfkjmijaaGreatDoorEvQ
namespace Go.Proofs.YtbinmgpfkjmijaaGreatDoor
open Go Go.RowKit Go.Shelf

theorem con_sym (x y : Ev) : conE x y = conE y x := by
  unfold conE
  cases touchE x <;> cases touchE y <;> simp only [Bool.true_and, Bool.false_and]
  rw [Bool.eq_iff_iff]
  simp only [Bool.and_eq_true, decide_eq_true_eq]
  constructor <;> (intro h; omega)
theorem lead_self (x : Ev) : leadE x x = true := by unfold leadE; simp
theorem lead_rel {x y : Ev} (h : leadE x y = true) (hg : (x.g != y.g) = true) : relE x = true := by
  unfold leadE at h
  rw [if_neg (by simpa using hg)] at h
  split at h
  · cases h
  · rename_i h1
    simpa using h1
def txtE (x : Ev) : List UInt8 := if mayE x then textE x else []
theorem bytes16_any (x : Ev) (hx : OkE x) (w : World) (hv : EVars w) : Calls Tryz.prog 16 #[evV x] w fun e w' => ∃ v, e = .returned (.tuple #[v, .int .i64 (errE x)]) ∧ Adds w w' := by
  unfold errE
  cases hm : mayE x
  · exact (bytes16_no x hx hm w).mono fun _ _ ⟨h1, h2⟩ => ⟨_, h1, h2⟩
  · exact (bytes16_yes x hx hm w hv).mono fun _ _ ⟨v, h1, _, h2⟩ => ⟨v, h1, h2⟩
theorem text16_any (x : Ev) (hx : OkE x) (w : World) (hv : EVars w) : Calls Tryz.prog 9 #[evV x] w fun e w' => e = .returned (.tuple #[.string (str (txtE x)), .int .i64 (errE x)]) ∧ Adds w w' := by
  unfold errE txtE
  cases hm : mayE x
  · exact text16_no x hx hm w
  · exact text16_yes x hx hm w hv
theorem errE_two {x y : Ev} (hn : ¬ (mayE x = true ∧ mayE y = true)) : (errE x = 0 ∧ errE y = 2) ∨ (errE x = 2 ∧ errE y = 0) ∨ (errE x = 2 ∧ errE y = 2) := by
  unfold errE
  cases hx : mayE x <;> cases hy : mayE y <;> simp_all
theorem str_inj16 {a b : List UInt8} (h : str a = str b) : a = b := by
  have := congrArg (fun s : ByteArray => s.data.toList) h
  simpa [str] using this
theorem str_eqb16 (a b : List UInt8) (q : Bool) (h : a = b ↔ q = true) : ((str a).toList == (str b).toList) = q := by
  cases q
  · rw [beq_eq_false_iff_ne]
    intro e
    have h2 : a = b := by
      rw [ByteArray.toList_eq, ByteArray.toList_eq] at e
      simpa [str] using e
    have := h.1 h2
    cases this
  · rw [h.2 rfl]; simp
end Go.Proofs.YtbinmgpfkjmijaaGreatDoor
