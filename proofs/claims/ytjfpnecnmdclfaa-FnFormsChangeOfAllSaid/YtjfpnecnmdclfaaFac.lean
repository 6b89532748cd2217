/- The facts of a row that hang on the head of the translation alone, once for the whole seat: read off the head's first signs, not off the whole of it. -/
import Derived.Test.YtjfpnecnmdclfaaRows
import Derived.JoinedOf
import Derived.KernelRfl
namespace Go.Proofs.Ytjfpnecnmdclfaa
open Go

def headSigns : List Char := [Char.ofNat 104, Char.ofNat 97, Char.ofNat 114, Char.ofNat 110, Char.ofNat 101, Char.ofNat 115, Char.ofNat 115, Char.ofNat 32, Char.ofNat 53, Char.ofNat 52, Char.ofNat 56, Char.ofNat 57, Char.ofNat 51, Char.ofNat 102, Char.ofNat 52, Char.ofNat 102, Char.ofNat 101, Char.ofNat 101, Char.ofNat 57, Char.ofNat 52, Char.ofNat 55, Char.ofNat 49, Char.ofNat 53, Char.ofNat 54, Char.ofNat 98, Char.ofNat 51, Char.ofNat 57, Char.ofNat 54, Char.ofNat 57, Char.ofNat 55, Char.ofNat 56, Char.ofNat 56, Char.ofNat 53, Char.ofNat 48, Char.ofNat 99, Char.ofNat 97, Char.ofNat 55, Char.ofNat 50, Char.ofNat 50, Char.ofNat 99, Char.ofNat 50, Char.ofNat 98, Char.ofNat 97, Char.ofNat 53, Char.ofNat 99, Char.ofNat 100, Char.ofNat 97, Char.ofNat 102, Char.ofNat 56, Char.ofNat 97, Char.ofNat 54, Char.ofNat 52, Char.ofNat 100, Char.ofNat 53, Char.ofNat 55, Char.ofNat 53, Char.ofNat 48, Char.ofNat 54, Char.ofNat 54, Char.ofNat 102, Char.ofNat 57, Char.ofNat 98, Char.ofNat 99, Char.ofNat 50, Char.ofNat 57, Char.ofNat 55, Char.ofNat 97, Char.ofNat 98, Char.ofNat 55, Char.ofNat 50, Char.ofNat 50, Char.ofNat 49, Char.ofNat 32, Char.ofNat 99, Char.ofNat 117, Char.ofNat 116, Char.ofNat 32, Char.ofNat 97, Char.ofNat 116, Char.ofNat 32, Char.ofNat 108, Char.ofNat 111, Char.ofNat 111, Char.ofNat 112, Char.ofNat 46, Char.ofNat 101, Char.ofNat 120, Char.ofNat 97, Char.ofNat 109, Char.ofNat 112, Char.ofNat 108, Char.ofNat 101, Char.ofNat 47, Char.ofNat 103, Char.ofNat 48, Char.ofNat 49, Char.ofNat 50, Char.ofNat 53, Char.ofNat 48, Char.ofNat 47, Char.ofNat 108, Char.ofNat 97, Char.ofNat 119, Char.ofNat 115, Char.ofNat 46, Char.ofNat 70, Char.ofNat 110, Char.ofNat 70, Char.ofNat 111, Char.ofNat 114, Char.ofNat 109, Char.ofNat 115, Char.ofNat 67, Char.ofNat 104, Char.ofNat 97, Char.ofNat 110, Char.ofNat 103, Char.ofNat 101, Char.ofNat 32, Char.ofNat 108, Char.ofNat 111, Char.ofNat 111, Char.ofNat 112, Char.ofNat 46, Char.ofNat 101, Char.ofNat 120, Char.ofNat 97, Char.ofNat 109, Char.ofNat 112, Char.ofNat 108, Char.ofNat 101, Char.ofNat 47, Char.ofNat 103, Char.ofNat 48, Char.ofNat 49, Char.ofNat 50, Char.ofNat 53, Char.ofNat 48, Char.ofNat 47, Char.ofNat 108, Char.ofNat 97, Char.ofNat 119, Char.ofNat 115, Char.ofNat 46, Char.ofNat 70, Char.ofNat 110, Char.ofNat 70, Char.ofNat 111, Char.ofNat 114, Char.ofNat 109, Char.ofNat 115, Char.ofNat 67, Char.ofNat 104, Char.ofNat 97, Char.ofNat 110, Char.ofNat 103, Char.ofNat 101, Char.ofNat 79, Char.ofNat 102, Char.ofNat 65, Char.ofNat 108, Char.ofNat 108]
theorem head_lit : Try.prog.initOrder = "harness 54893f4fee947156b396978850ca722c2ba5cdaf8a64d575066f9bc297ab7221 cut at loop.example/g01250/laws.FnFormsChange loop.example/g01250/laws.FnFormsChangeOfAll" := by kernel_rfl
theorem lit_signs : "harness 54893f4fee947156b396978850ca722c2ba5cdaf8a64d575066f9bc297ab7221 cut at loop.example/g01250/laws.FnFormsChange loop.example/g01250/laws.FnFormsChangeOfAll" = String.ofList [Char.ofNat 104, Char.ofNat 97, Char.ofNat 114, Char.ofNat 110, Char.ofNat 101, Char.ofNat 115, Char.ofNat 115, Char.ofNat 32, Char.ofNat 53, Char.ofNat 52, Char.ofNat 56, Char.ofNat 57, Char.ofNat 51, Char.ofNat 102, Char.ofNat 52, Char.ofNat 102, Char.ofNat 101, Char.ofNat 101, Char.ofNat 57, Char.ofNat 52, Char.ofNat 55, Char.ofNat 49, Char.ofNat 53, Char.ofNat 54, Char.ofNat 98, Char.ofNat 51, Char.ofNat 57, Char.ofNat 54, Char.ofNat 57, Char.ofNat 55, Char.ofNat 56, Char.ofNat 56, Char.ofNat 53, Char.ofNat 48, Char.ofNat 99, Char.ofNat 97, Char.ofNat 55, Char.ofNat 50, Char.ofNat 50, Char.ofNat 99, Char.ofNat 50, Char.ofNat 98, Char.ofNat 97, Char.ofNat 53, Char.ofNat 99, Char.ofNat 100, Char.ofNat 97, Char.ofNat 102, Char.ofNat 56, Char.ofNat 97, Char.ofNat 54, Char.ofNat 52, Char.ofNat 100, Char.ofNat 53, Char.ofNat 55, Char.ofNat 53, Char.ofNat 48, Char.ofNat 54, Char.ofNat 54, Char.ofNat 102, Char.ofNat 57, Char.ofNat 98, Char.ofNat 99, Char.ofNat 50, Char.ofNat 57, Char.ofNat 55, Char.ofNat 97, Char.ofNat 98, Char.ofNat 55, Char.ofNat 50, Char.ofNat 50, Char.ofNat 49, Char.ofNat 32, Char.ofNat 99, Char.ofNat 117, Char.ofNat 116, Char.ofNat 32, Char.ofNat 97, Char.ofNat 116, Char.ofNat 32, Char.ofNat 108, Char.ofNat 111, Char.ofNat 111, Char.ofNat 112, Char.ofNat 46, Char.ofNat 101, Char.ofNat 120, Char.ofNat 97, Char.ofNat 109, Char.ofNat 112, Char.ofNat 108, Char.ofNat 101, Char.ofNat 47, Char.ofNat 103, Char.ofNat 48, Char.ofNat 49, Char.ofNat 50, Char.ofNat 53, Char.ofNat 48, Char.ofNat 47, Char.ofNat 108, Char.ofNat 97, Char.ofNat 119, Char.ofNat 115, Char.ofNat 46, Char.ofNat 70, Char.ofNat 110, Char.ofNat 70, Char.ofNat 111, Char.ofNat 114, Char.ofNat 109, Char.ofNat 115, Char.ofNat 67, Char.ofNat 104, Char.ofNat 97, Char.ofNat 110, Char.ofNat 103, Char.ofNat 101, Char.ofNat 32, Char.ofNat 108, Char.ofNat 111, Char.ofNat 111, Char.ofNat 112, Char.ofNat 46, Char.ofNat 101, Char.ofNat 120, Char.ofNat 97, Char.ofNat 109, Char.ofNat 112, Char.ofNat 108, Char.ofNat 101, Char.ofNat 47, Char.ofNat 103, Char.ofNat 48, Char.ofNat 49, Char.ofNat 50, Char.ofNat 53, Char.ofNat 48, Char.ofNat 47, Char.ofNat 108, Char.ofNat 97, Char.ofNat 119, Char.ofNat 115, Char.ofNat 46, Char.ofNat 70, Char.ofNat 110, Char.ofNat 70, Char.ofNat 111, Char.ofNat 114, Char.ofNat 109, Char.ofNat 115, Char.ofNat 67, Char.ofNat 104, Char.ofNat 97, Char.ofNat 110, Char.ofNat 103, Char.ofNat 101, Char.ofNat 79, Char.ofNat 102, Char.ofNat 65, Char.ofNat 108, Char.ofNat 108] := by kernel_rfl
theorem head_signs : Try.prog.initOrder.toList = headSigns := by
  rw [head_lit, lit_signs, String.toList_ofList]
  rfl
theorem head_cut {P : Program} (l : List Char) (h : P.initOrder.toList = l) (h2 : (behindMainWord (wordsSigns l)).head? = some "cut".toList) :
    ∃ rest, behindMainWord (wordsSigns P.initOrder.toList) = "cut".toList :: rest := by
  rw [h]
  cases hl : behindMainWord (wordsSigns l) with
  | nil => rw [hl] at h2; cases h2
  | cons c rest =>
    rw [hl] at h2
    simp only [List.head?_cons, Option.some.injEq] at h2
    exact ⟨rest, by rw [h2]⟩
theorem strip_cut (ws : List (List Char)) : stripLifts liftWords ("cut".toList :: ws) = ([], "cut".toList :: ws) := by
  simp [stripLifts, liftWords]
section
variable {P : Program} {rest : List (List Char)} (hw : behindMainWord (wordsSigns P.initOrder.toList) = "cut".toList :: rest)
include hw
theorem make_cut : P.make = some .cut := by
  unfold Program.make
  rw [hw]
  rfl
theorem may_enter_cut (h1 : P.laysLater = false) (h2 : P.bearsReflect = false) (h3 : P.doorRows = []) : P.mayEnter = true := by
  have hd : P.doorFits [] = true := by
    unfold Program.doorFits
    rw [h3]
    rfl
  unfold Program.mayEnter
  rw [hw]
  simp only [strip_cut]
  simp [h1, h2, hd]
theorem lifts_cut : P.liftsFinal = false := by
  unfold Program.liftsFinal Program.headLifts
  rw [hw]
  simp only [strip_cut]
  simp
end
theorem head_word : ∃ rest, behindMainWord (wordsSigns Try.prog.initOrder.toList) = "cut".toList :: rest := head_cut headSigns head_signs (by kernel_rfl)
theorem make_beq {P : Program} {m : Make} (h : P.make = some m) : (P.make == some m) = true := by rw [h]; simp
theorem lifts_beq {P : Program} {b : Bool} (h : P.liftsFinal = b) : (b == P.liftsFinal) = true := by rw [h]; simp
theorem fact_make (m : Make) (hm : m = .cut) : (Try.prog.make == some m) = true := by
  obtain ⟨rest, hw⟩ := head_word
  subst hm
  exact make_beq (make_cut hw)
theorem fact_lifts (b : Bool) (hb : b = false) : (b == Try.prog.liftsFinal) = true := by
  obtain ⟨rest, hw⟩ := head_word
  subst hb
  exact lifts_beq (lifts_cut hw)
theorem fact_enter : Try.prog.mayEnter = true := by
  obtain ⟨rest, hw⟩ := head_word
  exact may_enter_cut hw (by kernel_rfl) (by kernel_rfl) (by kernel_rfl)
end Go.Proofs.Ytjfpnecnmdclfaa
