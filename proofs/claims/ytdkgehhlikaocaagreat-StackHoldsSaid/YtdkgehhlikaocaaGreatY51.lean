/- Merged: Z38. -/
import Derived.Test.YtdkgehhlikaocaaGreatY32
import Derived.Test.YtdkgehhlikaocaaGreatY42
import Derived.Test.YtdkgehhlikaocaaGreatY43
import Derived.Test.YtdkgehhlikaocaaGreatY50
import Derived.Test.YtdkgehhlikaocaaGreatY41
namespace Go.Proofs.YtdkgehhlikaocaaGreat
open Go Go.RowKit Go.Shelf

theorem law_holds12 (u : Value) (p : Pg) (f : Int) (a : Value) (ws : List UInt32) (va : Value) (acts : List A4) (w : World) (hf : FuncsW w.heap.size w u p.1) (hw : Cells32 w.heap.size w a ws) (ha : Acts12 w.heap.size w va acts) :
    Calls Tryz.prog 4 #[startV u p f a, va] w fun e W' => e = .returned (.bool true) ∧ Adds w W' := by
  obtain ⟨fs, x1, x2, x3⟩ := p
  obtain ⟨ap, cp, rfl, hfc, hcm, hfn⟩ := id hf
  obtain ⟨aa, ca, rfl, hmx, _⟩ := id ha
  obtain ⟨aw, cw, rfl, hwc, hwm, _⟩ := id hw
  have HSm := Lib.hid (fun W (h : Adds w W) => small12_any _ (fs, x1, x2, x3) W (hf.adds h) f aw ws.length cw hwm hwc)
  have HRt := Lib.hid (fun W (h : Adds w W) => refRightP_any _ (fs, x1, x2, x3) W (hf.adds h))
  by_cases hs : (fewV fs && decide (ws.length ≤ 20)) = true
  · rw [hs] at HSm
    by_cases h1 : (80 : Int) < (acts.length : Int)
    · exact holds_c2 HSm h1
    · by_cases hr : rightP (fs, x1, x2, x3) = true
      · rw [hr] at HRt
        by_cases h2 : f < 0
        · exact holds_c4 HSm HRt h1 h2
        · by_cases h3 : (fs.length : Int) ≤ f
          · exact holds_c5 HSm HRt h1 h2 h3
          · obtain ⟨k, rfl⟩ : ∃ k : Nat, f = k := ⟨f.toNat, by omega⟩
            have hk : k < fs.length := by omega
            obtain ⟨g1, off, rfl, _, _⟩ := hf.at hk
            have hck : checkP (fs, x1, x2, x3) = 0 := by unfold rightP at hr; simpa using hr
            have hfi := fine_of hck
            have hok := ok_of_check hck
            obtain ⟨r0, r1, _⟩ := hfi.fs _ (getD_memF (p := (fs, x1, x2, x3)) hk)
            obtain ⟨r, hre⟩ : ∃ r : Nat, (fs.getD k zF).1 = (r : Int) := ⟨(fs.getD k zF).1.toNat, by have := r0.1; simp only at this; omega⟩
            have hn0 := hfi.n0
            simp only at hn0 r0 r1
            rw [hre] at r0
            have HR := Lib.hid (fun W (h : Adds w W) => show W.cell? ⟨g1, off + k * 2, none⟩ = some (.int .i64 (r : Int)) from by
              obtain ⟨g2, off2, e, _, h5⟩ := (hf.adds h).at hk
              simp only [Option.some.injEq, Addr.mk.injEq, and_true] at e
              obtain ⟨rfl, rfl⟩ := e
              rw [← hre]
              exact h5.1)
            by_cases h4 : (r : Int) < (ws.length : Int)
            · exact holds_c6 HSm HRt h1 h3 (show ((k : Nat) : Int) < (fs.length : Int) by omega) (show (fs.length : Int) ≤ 9223372036854775807 by omega) HR h4
            · refine holds_c7 HSm HRt h1 h3 (show ((k : Nat) : Int) < (fs.length : Int) by omega) (show (fs.length : Int) ≤ 9223372036854775807 by omega) HR h4 (Lib.hid fun W h => NewS_ok _ (fs, x1, x2, x3) (hf.adds h) hck hok hn0.2 (fun f hf => (hfi.fs f hf).2.1.2) k hk r hre (by omega) _ ws (hw.below h) (by omega))
                (Lib.hid fun W a c h => refAt_any _ (fs, x1, x2, x3) a c W (hf.adds h)) (Lib.hid (GoodS.mk0 hck hok ⟨hk, by simp only; omega, ?_⟩)) (Lib.hid ha) (Lib.hid rfl)
              simp only
              rw [hre]
              unfold newR
              simp
              omega
      · rw [show rightP (fs, x1, x2, x3) = false by simpa using hr] at HRt
        exact holds_c3 HSm HRt h1
  · rw [show (fewV fs && decide (ws.length ≤ 20)) = false by simpa using hs] at HSm
    exact holds_c1 HSm
end Go.Proofs.YtdkgehhlikaocaaGreat
