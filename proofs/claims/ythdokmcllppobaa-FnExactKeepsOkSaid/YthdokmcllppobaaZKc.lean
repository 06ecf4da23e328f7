/- A code that comes in, opened as it lies in memory. The words at the dump's head, read once: what the rows of this seat ask of them. -/
import Derived.Test.YthdokmcllppobaaZKit
import Derived.Test.YthdokmcllppobaaZDa
namespace Go.Proofs.Ythdokmcllppobaa
open Go.ChangeShapes Go.WideShapes Go.ChangeAt Go.RowKit Go.Deep

end Go.Proofs.Ythdokmcllppobaa
namespace Go.Proofs.Ythdokmcllppobaa
open Go.ChangeShapes Go.WideShapes Go.ChangeAt Go.RowKit Go.Deep

theorem strip_cut (r : List (List Char)) : stripLifts liftWords ("cut".toList :: r) = ([], "cut".toList :: r) := by kernel_rfl
theorem may_of {P : Program} {r : List (List Char)} (h : behindMainWord (wordsSigns P.initOrder.toList) = "cut".toList :: r) (hd : P.doorFits [] = true) (h1 : P.laysLater = false) (h2 : P.bearsReflect = false) : P.mayEnter = true := by
  unfold Program.mayEnter
  rw [h]
  simp only [strip_cut, hd, h1, h2]
  kernel_rfl
theorem lifts_of {P : Program} {r : List (List Char)} (h : behindMainWord (wordsSigns P.initOrder.toList) = "cut".toList :: r) : P.liftsFinal = false := by
  unfold Program.liftsFinal Program.headLifts
  rw [h]
  simp only [strip_cut]
  kernel_rfl
theorem make_of {P : Program} {r : List (List Char)} (h : behindMainWord (wordsSigns P.initOrder.toList) = "cut".toList :: r) : P.make = some .cut := by
  unfold Program.make Program.headLifts
  rw [h]
  simp only [strip_cut]
  kernel_rfl
theorem words_cut : ∀ (a r : List Char), (∀ c ∈ a, c ≠ Char.ofNat 32) → wordsSigns (a ++ Char.ofNat 32 :: r) = a :: wordsSigns r
  | [], _, _ => rfl
  | c :: a, r, h => by
    have ih := words_cut a r fun d hd => h d (List.mem_cons_of_mem _ hd)
    have hc : c ≠ Char.ofNat 32 := h c List.mem_cons_self
    show wordsSigns (c :: (a ++ Char.ofNat 32 :: r)) = _
    rw [wordsSigns.eq_3 _ _ (fun e => hc e), ih]

def headA : List Char := [Char.ofNat 104, Char.ofNat 97, Char.ofNat 114, Char.ofNat 110, Char.ofNat 101, Char.ofNat 115, Char.ofNat 115]
def headS : List Char := [Char.ofNat 51, Char.ofNat 98, Char.ofNat 55, Char.ofNat 102, Char.ofNat 53, Char.ofNat 100, Char.ofNat 99, Char.ofNat 99, Char.ofNat 48, Char.ofNat 48, Char.ofNat 54, Char.ofNat 99, Char.ofNat 50, Char.ofNat 52, Char.ofNat 55, Char.ofNat 56, Char.ofNat 49, Char.ofNat 101, Char.ofNat 50, Char.ofNat 97, Char.ofNat 57, Char.ofNat 52, Char.ofNat 98, Char.ofNat 57, Char.ofNat 57, Char.ofNat 100, Char.ofNat 49, Char.ofNat 54, Char.ofNat 100, Char.ofNat 100, Char.ofNat 50, Char.ofNat 51, Char.ofNat 98, Char.ofNat 55, Char.ofNat 100, Char.ofNat 100, Char.ofNat 56, Char.ofNat 55, Char.ofNat 57, Char.ofNat 55, Char.ofNat 48, Char.ofNat 99, Char.ofNat 52, Char.ofNat 57, Char.ofNat 48, Char.ofNat 50, Char.ofNat 50, Char.ofNat 55, Char.ofNat 98, Char.ofNat 54, Char.ofNat 48, Char.ofNat 98, Char.ofNat 52, Char.ofNat 56, Char.ofNat 53, Char.ofNat 48, Char.ofNat 98, Char.ofNat 57, Char.ofNat 50, Char.ofNat 102, Char.ofNat 55, Char.ofNat 97, Char.ofNat 55, Char.ofNat 98]
def headC : List Char := [Char.ofNat 99, Char.ofNat 117, Char.ofNat 116]
def headR : List Char := [Char.ofNat 97, Char.ofNat 116, Char.ofNat 32, Char.ofNat 108, Char.ofNat 111, Char.ofNat 111, Char.ofNat 112, Char.ofNat 46, Char.ofNat 101, Char.ofNat 120, Char.ofNat 97, Char.ofNat 109, Char.ofNat 112, Char.ofNat 108, Char.ofNat 101, Char.ofNat 47, Char.ofNat 111, Char.ofNat 114, Char.ofNat 116, Char.ofNat 104, Char.ofNat 111, Char.ofNat 108, Char.ofNat 111, Char.ofNat 103, Char.ofNat 105, Char.ofNat 99, Char.ofNat 115, Char.ofNat 47, Char.ofNat 108, Char.ofNat 97, Char.ofNat 119, Char.ofNat 115, Char.ofNat 46, Char.ofNat 70, Char.ofNat 110, Char.ofNat 69, Char.ofNat 120, Char.ofNat 97, Char.ofNat 99, Char.ofNat 116, Char.ofNat 75, Char.ofNat 101, Char.ofNat 101, Char.ofNat 112, Char.ofNat 115, Char.ofNat 79, Char.ofNat 107]
def headL : List Char := headA ++ Char.ofNat 32 :: (headS ++ Char.ofNat 32 :: (headC ++ Char.ofNat 32 :: headR))
set_option maxRecDepth 100000 in
theorem head_lit : "harness 3b7f5dcc006c24781e2a94b99d16dd23b7dd87970c490227b60b4850b92f7a7b cut at loop.example/orthologics/laws.FnExactKeepsOk" = String.ofList [Char.ofNat 104, Char.ofNat 97, Char.ofNat 114, Char.ofNat 110, Char.ofNat 101, Char.ofNat 115, Char.ofNat 115, Char.ofNat 32, Char.ofNat 51, Char.ofNat 98, Char.ofNat 55, Char.ofNat 102, Char.ofNat 53, Char.ofNat 100, Char.ofNat 99, Char.ofNat 99, Char.ofNat 48, Char.ofNat 48, Char.ofNat 54, Char.ofNat 99, Char.ofNat 50, Char.ofNat 52, Char.ofNat 55, Char.ofNat 56, Char.ofNat 49, Char.ofNat 101, Char.ofNat 50, Char.ofNat 97, Char.ofNat 57, Char.ofNat 52, Char.ofNat 98, Char.ofNat 57, Char.ofNat 57, Char.ofNat 100, Char.ofNat 49, Char.ofNat 54, Char.ofNat 100, Char.ofNat 100, Char.ofNat 50, Char.ofNat 51, Char.ofNat 98, Char.ofNat 55, Char.ofNat 100, Char.ofNat 100, Char.ofNat 56, Char.ofNat 55, Char.ofNat 57, Char.ofNat 55, Char.ofNat 48, Char.ofNat 99, Char.ofNat 52, Char.ofNat 57, Char.ofNat 48, Char.ofNat 50, Char.ofNat 50, Char.ofNat 55, Char.ofNat 98, Char.ofNat 54, Char.ofNat 48, Char.ofNat 98, Char.ofNat 52, Char.ofNat 56, Char.ofNat 53, Char.ofNat 48, Char.ofNat 98, Char.ofNat 57, Char.ofNat 50, Char.ofNat 102, Char.ofNat 55, Char.ofNat 97, Char.ofNat 55, Char.ofNat 98, Char.ofNat 32, Char.ofNat 99, Char.ofNat 117, Char.ofNat 116, Char.ofNat 32, Char.ofNat 97, Char.ofNat 116, Char.ofNat 32, Char.ofNat 108, Char.ofNat 111, Char.ofNat 111, Char.ofNat 112, Char.ofNat 46, Char.ofNat 101, Char.ofNat 120, Char.ofNat 97, Char.ofNat 109, Char.ofNat 112, Char.ofNat 108, Char.ofNat 101, Char.ofNat 47, Char.ofNat 111, Char.ofNat 114, Char.ofNat 116, Char.ofNat 104, Char.ofNat 111, Char.ofNat 108, Char.ofNat 111, Char.ofNat 103, Char.ofNat 105, Char.ofNat 99, Char.ofNat 115, Char.ofNat 47, Char.ofNat 108, Char.ofNat 97, Char.ofNat 119, Char.ofNat 115, Char.ofNat 46, Char.ofNat 70, Char.ofNat 110, Char.ofNat 69, Char.ofNat 120, Char.ofNat 97, Char.ofNat 99, Char.ofNat 116, Char.ofNat 75, Char.ofNat 101, Char.ofNat 101, Char.ofNat 112, Char.ofNat 115, Char.ofNat 79, Char.ofNat 107] := by kernel_rfl
set_option maxRecDepth 100000 in
theorem head_list : [Char.ofNat 104, Char.ofNat 97, Char.ofNat 114, Char.ofNat 110, Char.ofNat 101, Char.ofNat 115, Char.ofNat 115, Char.ofNat 32, Char.ofNat 51, Char.ofNat 98, Char.ofNat 55, Char.ofNat 102, Char.ofNat 53, Char.ofNat 100, Char.ofNat 99, Char.ofNat 99, Char.ofNat 48, Char.ofNat 48, Char.ofNat 54, Char.ofNat 99, Char.ofNat 50, Char.ofNat 52, Char.ofNat 55, Char.ofNat 56, Char.ofNat 49, Char.ofNat 101, Char.ofNat 50, Char.ofNat 97, Char.ofNat 57, Char.ofNat 52, Char.ofNat 98, Char.ofNat 57, Char.ofNat 57, Char.ofNat 100, Char.ofNat 49, Char.ofNat 54, Char.ofNat 100, Char.ofNat 100, Char.ofNat 50, Char.ofNat 51, Char.ofNat 98, Char.ofNat 55, Char.ofNat 100, Char.ofNat 100, Char.ofNat 56, Char.ofNat 55, Char.ofNat 57, Char.ofNat 55, Char.ofNat 48, Char.ofNat 99, Char.ofNat 52, Char.ofNat 57, Char.ofNat 48, Char.ofNat 50, Char.ofNat 50, Char.ofNat 55, Char.ofNat 98, Char.ofNat 54, Char.ofNat 48, Char.ofNat 98, Char.ofNat 52, Char.ofNat 56, Char.ofNat 53, Char.ofNat 48, Char.ofNat 98, Char.ofNat 57, Char.ofNat 50, Char.ofNat 102, Char.ofNat 55, Char.ofNat 97, Char.ofNat 55, Char.ofNat 98, Char.ofNat 32, Char.ofNat 99, Char.ofNat 117, Char.ofNat 116, Char.ofNat 32, Char.ofNat 97, Char.ofNat 116, Char.ofNat 32, Char.ofNat 108, Char.ofNat 111, Char.ofNat 111, Char.ofNat 112, Char.ofNat 46, Char.ofNat 101, Char.ofNat 120, Char.ofNat 97, Char.ofNat 109, Char.ofNat 112, Char.ofNat 108, Char.ofNat 101, Char.ofNat 47, Char.ofNat 111, Char.ofNat 114, Char.ofNat 116, Char.ofNat 104, Char.ofNat 111, Char.ofNat 108, Char.ofNat 111, Char.ofNat 103, Char.ofNat 105, Char.ofNat 99, Char.ofNat 115, Char.ofNat 47, Char.ofNat 108, Char.ofNat 97, Char.ofNat 119, Char.ofNat 115, Char.ofNat 46, Char.ofNat 70, Char.ofNat 110, Char.ofNat 69, Char.ofNat 120, Char.ofNat 97, Char.ofNat 99, Char.ofNat 116, Char.ofNat 75, Char.ofNat 101, Char.ofNat 101, Char.ofNat 112, Char.ofNat 115, Char.ofNat 79, Char.ofNat 107] = headL := by kernel_rfl
theorem init_lit : Try.checked.prog.initOrder = "harness 3b7f5dcc006c24781e2a94b99d16dd23b7dd87970c490227b60b4850b92f7a7b cut at loop.example/orthologics/laws.FnExactKeepsOk" := by kernel_rfl
theorem init_list : Try.checked.prog.initOrder.toList = headL := ((congrArg String.toList (init_lit.trans head_lit)).trans String.toList_ofList).trans head_list
theorem head_words : wordsSigns headL = headA :: headS :: headC :: wordsSigns headR :=
  (words_cut headA _ (by decide +kernel)).trans (congrArg (headA :: ·) ((words_cut headS _ (by decide +kernel)).trans (congrArg (headS :: ·) (words_cut headC _ (by decide +kernel)))))
theorem head_behind : behindMainWord (wordsSigns Try.checked.prog.initOrder.toList) = "cut".toList :: wordsSigns headR := by
  rw [init_list, head_words]
  kernel_rfl
theorem lays : Try.checked.prog.laysLater = false := by kernel_rfl
theorem bears : Try.checked.prog.bearsReflect = false := by kernel_rfl
theorem door : Try.checked.prog.doorFits [] = true := by kernel_rfl
theorem may_enter : Try.checked.prog.mayEnter = true := may_of head_behind door lays bears
theorem lifts_final : Try.checked.prog.liftsFinal = false := lifts_of head_behind
theorem make_cut : Try.checked.prog.make = some .cut := make_of head_behind
end Go.Proofs.Ythdokmcllppobaa
