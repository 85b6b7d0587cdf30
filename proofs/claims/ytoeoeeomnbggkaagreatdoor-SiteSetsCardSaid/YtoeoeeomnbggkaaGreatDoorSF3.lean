/- One part of a site read of a text: its contract. -/
import Derived.Test.YtoeoeeomnbggkaaGreatDoorSLib
namespace Go.Proofs.YtoeoeeomnbggkaaGreatDoor
open Go Go.RowKit Go.Shelf

def textV (m : UInt8) (l : List UInt8) : Value := match partT m l with
  | some (v, r) => .tuple #[.int .i64 v, .string (str r), .int .i64 0]
  | none => .tuple #[.int .i64 0, .string ⟨#[]⟩, .int .i64 170]
theorem dropWhile_le (f : UInt8 → Bool) : ∀ l : List UInt8, (l.dropWhile f).length ≤ l.length
  | [] => by simp
  | x :: t => by
    rw [List.dropWhile_cons]
    split
    · have := dropWhile_le f t; simp; omega
    · simp
theorem textV_len {m : UInt8} {l r : List UInt8} {v : Int} (h : partT m l = some (v, r)) : r.length ≤ l.length := by
  unfold partT at h
  split at h
  · split at h
    · simp only [Option.some.injEq, Prod.mk.injEq] at h
      rw [← h.2]
      unfold Lib.trimLeftS
      have h1 := Lib.trimPrefix_le l [m]
      have h2 := dropWhile_le (fun b => dig10.contains b) (Lib.trimPrefix l [m])
      omega
    · cases h
  · cases h

def outT (p : Bool) (e : Lib.NumEnd Int) (R : List UInt8) : Value := match p, e with
  | true, .ok v => .tuple #[.int .i64 v, .string (str R), .int .i64 0]
  | _, _ => .tuple #[.int .i64 0, .string ⟨#[]⟩, .int .i64 170]
theorem outT_no (p : Bool) {T : List UInt8} (h : ∀ v, Lib.atoiAll T ≠ .ok v) (R : List UInt8) : outT p (Lib.atoiAll T) R = .tuple #[.int .i64 0, .string ⟨#[]⟩, .int .i64 170] := by
  cases p
  · rfl
  · cases h0 : Lib.atoiAll T with
    | ok v => exact absurd h0 (h v)
    | «syntax» => rfl
    | range => rfl
set_option maxRecDepth 100000 in
set_option maxHeartbeats 2000000 in
theorem text_any (fv : Value) (b : Int) (m : UInt8) (wd : Int) (l : List UInt8) (hl : l.length ≤ 1000000) (w : World) (hv : SVars w) :
    Calls Tryz.prog 31 #[.agg #[fv, .int .i64 b, .string ⟨#[m]⟩, .int .i64 wd], .string (str l)] w fun e w' => e = .returned (textV m l) ∧ Adds w w' := by
  obtain ⟨X, hX⟩ : ∃ X, Lib.trimPrefix l [m] = X := ⟨_, rfl⟩
  obtain ⟨R, hR⟩ : ∃ R, Lib.trimLeftS X dig10 = R := ⟨_, rfl⟩
  obtain ⟨T, hT⟩ : ∃ T, Lib.trimSuffix X R = T := ⟨_, rfl⟩
  obtain ⟨p, hp⟩ : ∃ p, Lib.hasPrefix l [m] = p := ⟨_, rfl⟩
  have hXl : X.length ≤ 1000000 := by have := Lib.trimPrefix_le l [m]; rw [hX] at this; omega
  have hTl : T.length ≤ 1000000 := by have := Lib.trimSuffix_le X R; rw [hT] at this; omega
  have hC := Lib.hid (cutPre_any l m)
  have hL := Lib.hid (triml_any X)
  have hS := Lib.hid (trims_any X R hXl)
  rw [hX, hp] at hC
  rw [hR] at hL
  rw [hT] at hS
  have hV := Lib.hid hv
  have hval : textV m l = outT p (Lib.atoiAll T) R := by
    unfold textV partT
    rw [hp, hX, hR, hT]
    cases p <;> cases Lib.atoiAll T <;> rfl
  have HTl := Lib.hid hTl
  clear hv hX hR hT hp hXl hTl hl
  by_cases ha : ∃ v, Lib.atoiAll T = .ok v
  · obtain ⟨v, ha⟩ := ha
    have hA := Lib.hid (atoi7_yes T HTl.out v ha)
    rw [ha] at hval
    clear ha
    cases p
    · rw [hval]
      clear hval
      go_enter Tryz.func31, Tryz.ntmps31
      go_wp2_with (first
        | (go_at_call 42; refine (hC.out _).mono ?_; rintro e w1 ⟨rfl, rfl⟩)
        | (go_at_call 43; refine (hL.out _).mono ?_; rintro e w1 ⟨rfl, h1⟩; have H1 := Lib.hid h1; clear h1)
        | (go_at_call 45; refine (hS.out _).mono ?_; rintro e w2 ⟨rfl, rfl⟩)
        | (go_at_call 44; refine (hA.out _).mono ?_; rintro e w2 ⟨rfl, h2⟩; have H2 := Lib.hid h2; clear h2))
      go_ret3
      exact ⟨rfl, (Gr.new w _).adds.trans (Adds.trans H1.out H2.out)⟩
    · rw [hval]
      clear hval
      go_enter Tryz.func31, Tryz.ntmps31
      go_wp2_with (first
        | (go_at_call 42; refine (hC.out _).mono ?_; rintro e w1 ⟨rfl, rfl⟩)
        | (go_at_call 43; refine (hL.out _).mono ?_; rintro e w1 ⟨rfl, h1⟩; have H1 := Lib.hid h1; clear h1)
        | (go_at_call 45; refine (hS.out _).mono ?_; rintro e w2 ⟨rfl, rfl⟩)
        | (go_at_call 44; refine (hA.out _).mono ?_; rintro e w2 ⟨rfl, h2⟩; have H2 := Lib.hid h2; clear h2))
      go_ret3
      exact ⟨rfl, (Gr.new w _).adds.trans (Adds.trans H1.out H2.out)⟩
  · have ha' : ∀ v, Lib.atoiAll T ≠ .ok v := fun v h => ha ⟨v, h⟩
    have hA := Lib.hid (atoi7_no T HTl.out ha')
    rw [outT_no p ha' R] at hval
    clear ha ha'
    cases p
    · rw [hval]
      clear hval
      go_enter Tryz.func31, Tryz.ntmps31
      go_wp2_with (first
        | (go_at_call 42; refine (hC.out _).mono ?_; rintro e w1 ⟨rfl, rfl⟩)
        | (go_at_call 43; refine (hL.out _).mono ?_; rintro e w1 ⟨rfl, h1⟩; have H1 := Lib.hid h1; clear h1)
        | (go_at_call 45; refine (hS.out _).mono ?_; rintro e w2 ⟨rfl, rfl⟩)
        | (go_at_call 44; refine (hA.out _ (hV.out.below ((Gr.new w _).adds.trans H1.out))).mono ?_; rintro e w2 ⟨⟨n, N, rfl⟩, h2⟩; have H2 := Lib.hid h2; clear h2))
      go_ret3
      exact ⟨rfl, (Gr.new w _).adds.trans (Adds.trans H1.out H2.out)⟩
    · rw [hval]
      clear hval
      go_enter Tryz.func31, Tryz.ntmps31
      go_wp2_with (first
        | (go_at_call 42; refine (hC.out _).mono ?_; rintro e w1 ⟨rfl, rfl⟩)
        | (go_at_call 43; refine (hL.out _).mono ?_; rintro e w1 ⟨rfl, h1⟩; have H1 := Lib.hid h1; clear h1)
        | (go_at_call 45; refine (hS.out _).mono ?_; rintro e w2 ⟨rfl, rfl⟩)
        | (go_at_call 44; refine (hA.out _ (hV.out.below ((Gr.new w _).adds.trans H1.out))).mono ?_; rintro e w2 ⟨⟨n, N, rfl⟩, h2⟩; have H2 := Lib.hid h2; clear h2))
      go_ret3
      exact ⟨rfl, (Gr.new w _).adds.trans (Adds.trans H1.out H2.out)⟩
end Go.Proofs.YtoeoeeomnbggkaaGreatDoor
