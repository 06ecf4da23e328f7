import Derived.Test.YtojcgmgponnlpaaZOa
import Derived.Test.YtojcgmgponnlpaaRows
import Derived.ProofKit
import Derived.Deep.Matrix
import Derived.Test.YtojcgmgponnlpaaZDa
import Derived.Lib.SmallJoins
namespace Go.Proofs.Ytojcgmgponnlpaa
open Go.ChangeShapes Go.WideShapes Go.ChangeAt Go.RowKit Go.Deep

theorem progOwn : ownKnob Try.prog.godebug = none := by kernel_rfl
theorem progLaid : laidOutB Try.prog = true := by kernel_rfl
section
variable {H : Type} {enc : TypeId × Value → H} {P : Program}
theorem post_of_below {f : Func} {s : ChangeSpec} {apart fresh handsOn again : Bool} {W W' : World} {args : Array Value} {v : Value} {ds gs : List (DataW H)} {before pa pv : List MemPlace}
    (hW : DataW.Whole enc P f.params.toList s.vars apart W args.toList ds gs before)
    (hres : ∀ (b : Nat) (sp : Nat → Bool) (hd : Bool), DataW.TrodAll enc P W' b sp hd f.resultTypes.toList (v.resultList f.resultTypes.size) (s.fn H (ds ++ gs)).results [])
    (hargs : ∀ sp : Nat → Bool, (∀ p ∈ before, sp p.block = true) → DataW.TrodAll enc P W' 0 sp true f.params.toList args.toList (s.fn H (ds ++ gs)).args pa)
    (hvars : ∀ sp : Nat → Bool, (∀ p ∈ before, sp p.block = true) → DataW.TrodVars enc P W' sp s.vars (s.fn H (ds ++ gs)).vars pv)
    (hps : before = pa ++ pv) (hb : Below W.heap.size W W')
    (hok : ∀ (j : Nat) (t : TypeId) (r : Value), f.resultTypes[j]? = some t → (v.resultList f.resultTypes.size)[j]? = some r → Value.okWide P W' .any 0 t r) :
    s.post enc P f apart fresh handsOn again W args v W' := by
  have hlt : ∀ p ∈ before, p.block < W.heap.size := fun p hp => hW.lt p hp
  have hold : ∀ p ∈ before, (fun b => decide (b < W.heap.size)) p.block = true := fun p hp => by simpa using hlt p hp
  refine ⟨ds, gs, before, [], pa, pv, hW, hres _ _ _, hargs _ hold, hvars _ hold, World.keptBut_mono (fun p hp => ⟨hp, ?_⟩) (hb.frame (· ∈ before)), fun _ => ?_⟩
  · rw [hps, List.mem_append] at hp
    exact Or.inr hp
  · obtain ⟨_, _, _, _, _, hz, hn⟩ := hW
    refine ⟨hok, _, _, ([] ++ pa) ++ pv, ⟨[] ++ pa, pv, trodAll_append (hargs _ (fun _ _ => rfl)) (hres _ _ _), hvars _ (fun _ _ => rfl), rfl, ?_, ?_⟩, ?_⟩
    · intro b off hp
      have hin : MemPlace.cell b off ∈ before := by rw [hps]; simpa using hp
      rw [hb.frozen (hlt _ hin)]
      exact hz b off hin
    · intro ha
      have := hn ha
      rw [hps] at this
      simpa using this
    · intro p hp _
      rw [hps]
      simpa using hp
end

end Go.Proofs.Ytojcgmgponnlpaa
namespace Go.Proofs.Ytojcgmgponnlpaa
open Go.ChangeShapes Go.WideShapes Go.ChangeAt Go.RowKit Go.Deep

theorem cellsByte : Try.prog.cellsOf 5 = 1 := by kernel_rfl

theorem open_code {H : Type} {enc : TypeId × Value → H} {W : World} {base fuel : Nat} {a : Option Addr} {len cap : Nat} {x : DataW H × List MemPlace}
    (h : DataW.trod enc Try.prog W base (fun _ => true) true fuel 22 [.slice a len cap] = some x) : ∃ (b o : Nat) (z : Nat → Nat), CodeAt W a b o len cap z := by
  rcases open_ints Try.underlying22 Try.underlying5 cellsByte h with ⟨hcs, _⟩ | ⟨a', len', cap', zs, hcs, _, hl, hm, hz, _, hcell, hwf⟩
  · simp only [List.cons.injEq, and_true, Value.slice.injEq] at hcs
    obtain ⟨rfl, rfl, rfl⟩ := hcs
    exact ⟨0, 0, fun _ => 0, ⟨fun j hj => absurd hj (Nat.not_lt_zero _)⟩, Nat.le_refl _, Nat.zero_le _⟩
  · simp only [List.cons.injEq, and_true, Value.slice.injEq] at hcs
    obtain ⟨rfl, rfl, rfl⟩ := hcs
    simp only [if_true] at hz
    have hml : maxLen = 9223372036854775807 := rfl
    refine ⟨a'.block, a'.off, fun j => (zs.getD j 0).toNat, ⟨fun j hj => ?_⟩, hl, by omega⟩
    obtain ⟨b, o, sp⟩ := a'
    have hc := hcell j (by omega)
    have hs : sp = none := by simpa [Addr.add] using World.cell?_spot (hcell 0 (by omega))
    subst hs
    rw [add_plain] at hc
    have hg : zs.getD j 0 = zs[j]'(by omega) := by rw [List.getD_eq_getElem?_getD, List.getElem?_eq_getElem (by omega)]; rfl
    have hw := hwf (zs.getD j 0) (by rw [hg]; exact List.getElem_mem _)
    have hw' : 0 ≤ zs.getD j 0 ∧ zs.getD j 0 ≤ 255 := by
      simp only [Lit.wf, Bool.and_eq_true, decide_eq_true_eq] at hw
      exact hw
    refine ⟨rfl, (World.block_lt_of_cell? W ⟨b, o + j, none⟩ hc : b < _), ?_, by show (zs.getD j 0).toNat < 256; omega⟩
    show W.cell? _ = some (.int .u8 ((zs.getD j 0).toNat : Int))
    rw [Int.toNat_of_nonneg hw'.1]
    exact hc
end Go.Proofs.Ytojcgmgponnlpaa
namespace Go.Proofs.Ytojcgmgponnlpaa
open Go.ChangeShapes Go.WideShapes Go.ChangeAt Go.RowKit Go.Deep

theorem strip_cut (r : List (List Char)) : stripLifts liftWords ("cut".toList :: r) = ([], "cut".toList :: r) := by kernel_rfl
theorem may_of {P : Program} {r : List (List Char)} (h : behindMainWord (wordsSigns P.initOrder.toList) = "cut".toList :: r) (hd : P.doorFits [] = true) (h1 : P.laysLater = false) (h2 : P.bearsReflect = false) : P.mayEnter = true := by
  unfold Program.mayEnter
  rw [h]
  simp only [strip_cut, hd, h1, h2]
  kernel_rfl
theorem lifts_of {P : Program} {r : List (List Char)} (h : behindMainWord (wordsSigns P.initOrder.toList) = "cut".toList :: r) : P.liftsFinal = false := by
  unfold Program.liftsFinal Program.headLifts
  rw [h]
  simp only [strip_cut]
  kernel_rfl
theorem make_of {P : Program} {r : List (List Char)} (h : behindMainWord (wordsSigns P.initOrder.toList) = "cut".toList :: r) : P.make = some .cut := by
  unfold Program.make Program.headLifts
  rw [h]
  simp only [strip_cut]
  kernel_rfl
theorem words_cut : ∀ (a r : List Char), (∀ c ∈ a, c ≠ Char.ofNat 32) → wordsSigns (a ++ Char.ofNat 32 :: r) = a :: wordsSigns r
  | [], _, _ => rfl
  | c :: a, r, h => by
    have ih := words_cut a r fun d hd => h d (List.mem_cons_of_mem _ hd)
    have hc : c ≠ Char.ofNat 32 := h c List.mem_cons_self
    show wordsSigns (c :: (a ++ Char.ofNat 32 :: r)) = _
    rw [wordsSigns.eq_3 _ _ (fun e => hc e), ih]

def headA : List Char := [Char.ofNat 104, Char.ofNat 97, Char.ofNat 114, Char.ofNat 110, Char.ofNat 101, Char.ofNat 115, Char.ofNat 115]
def headS : List Char := [Char.ofNat 102, Char.ofNat 57, Char.ofNat 49, Char.ofNat 57, Char.ofNat 51, Char.ofNat 55, Char.ofNat 98, Char.ofNat 98, Char.ofNat 97, Char.ofNat 101, Char.ofNat 98, Char.ofNat 56, Char.ofNat 101, Char.ofNat 100, Char.ofNat 98, Char.ofNat 100, Char.ofNat 53, Char.ofNat 98, Char.ofNat 102, Char.ofNat 53, Char.ofNat 51, Char.ofNat 50, Char.ofNat 100, Char.ofNat 50, Char.ofNat 97, Char.ofNat 52, Char.ofNat 53, Char.ofNat 51, Char.ofNat 98, Char.ofNat 102, Char.ofNat 102, Char.ofNat 48, Char.ofNat 56, Char.ofNat 101, Char.ofNat 52, Char.ofNat 55, Char.ofNat 97, Char.ofNat 53, Char.ofNat 53, Char.ofNat 97, Char.ofNat 102, Char.ofNat 98, Char.ofNat 50, Char.ofNat 50, Char.ofNat 98, Char.ofNat 101, Char.ofNat 53, Char.ofNat 99, Char.ofNat 49, Char.ofNat 101, Char.ofNat 57, Char.ofNat 100, Char.ofNat 55, Char.ofNat 99, Char.ofNat 48, Char.ofNat 49, Char.ofNat 52, Char.ofNat 53, Char.ofNat 50, Char.ofNat 101, Char.ofNat 100, Char.ofNat 101, Char.ofNat 48, Char.ofNat 55]
def headC : List Char := [Char.ofNat 99, Char.ofNat 117, Char.ofNat 116]
def headR : List Char := [Char.ofNat 97, Char.ofNat 116, Char.ofNat 32, Char.ofNat 108, Char.ofNat 111, Char.ofNat 111, Char.ofNat 112, Char.ofNat 46, Char.ofNat 101, Char.ofNat 120, Char.ofNat 97, Char.ofNat 109, Char.ofNat 112, Char.ofNat 108, Char.ofNat 101, Char.ofNat 47, Char.ofNat 111, Char.ofNat 114, Char.ofNat 116, Char.ofNat 104, Char.ofNat 111, Char.ofNat 108, Char.ofNat 111, Char.ofNat 103, Char.ofNat 105, Char.ofNat 99, Char.ofNat 115, Char.ofNat 47, Char.ofNat 108, Char.ofNat 97, Char.ofNat 119, Char.ofNat 115, Char.ofNat 46, Char.ofNat 70, Char.ofNat 110, Char.ofNat 68, Char.ofNat 101, Char.ofNat 115, Char.ofNat 107, Char.ofNat 79, Char.ofNat 107, Char.ofNat 32, Char.ofNat 108, Char.ofNat 111, Char.ofNat 111, Char.ofNat 112, Char.ofNat 46, Char.ofNat 101, Char.ofNat 120, Char.ofNat 97, Char.ofNat 109, Char.ofNat 112, Char.ofNat 108, Char.ofNat 101, Char.ofNat 47, Char.ofNat 111, Char.ofNat 114, Char.ofNat 116, Char.ofNat 104, Char.ofNat 111, Char.ofNat 108, Char.ofNat 111, Char.ofNat 103, Char.ofNat 105, Char.ofNat 99, Char.ofNat 115, Char.ofNat 47, Char.ofNat 108, Char.ofNat 97, Char.ofNat 119, Char.ofNat 115, Char.ofNat 46, Char.ofNat 70, Char.ofNat 110, Char.ofNat 68, Char.ofNat 101, Char.ofNat 115, Char.ofNat 107, Char.ofNat 78, Char.ofNat 101, Char.ofNat 119, Char.ofNat 32, Char.ofNat 108, Char.ofNat 111, Char.ofNat 111, Char.ofNat 112, Char.ofNat 46, Char.ofNat 101, Char.ofNat 120, Char.ofNat 97, Char.ofNat 109, Char.ofNat 112, Char.ofNat 108, Char.ofNat 101, Char.ofNat 47, Char.ofNat 111, Char.ofNat 114, Char.ofNat 116, Char.ofNat 104, Char.ofNat 111, Char.ofNat 108, Char.ofNat 111, Char.ofNat 103, Char.ofNat 105, Char.ofNat 99, Char.ofNat 115, Char.ofNat 47, Char.ofNat 108, Char.ofNat 97, Char.ofNat 119, Char.ofNat 115, Char.ofNat 46, Char.ofNat 70, Char.ofNat 110, Char.ofNat 69, Char.ofNat 120, Char.ofNat 97, Char.ofNat 99, Char.ofNat 116, Char.ofNat 68, Char.ofNat 101, Char.ofNat 115, Char.ofNat 107, Char.ofNat 79, Char.ofNat 107, Char.ofNat 32, Char.ofNat 108, Char.ofNat 111, Char.ofNat 111, Char.ofNat 112, Char.ofNat 46, Char.ofNat 101, Char.ofNat 120, Char.ofNat 97, Char.ofNat 109, Char.ofNat 112, Char.ofNat 108, Char.ofNat 101, Char.ofNat 47, Char.ofNat 111, Char.ofNat 114, Char.ofNat 116, Char.ofNat 104, Char.ofNat 111, Char.ofNat 108, Char.ofNat 111, Char.ofNat 103, Char.ofNat 105, Char.ofNat 99, Char.ofNat 115, Char.ofNat 47, Char.ofNat 108, Char.ofNat 97, Char.ofNat 119, Char.ofNat 115, Char.ofNat 46, Char.ofNat 70, Char.ofNat 110, Char.ofNat 69, Char.ofNat 120, Char.ofNat 97, Char.ofNat 99, Char.ofNat 116, Char.ofNat 68, Char.ofNat 101, Char.ofNat 115, Char.ofNat 107, Char.ofNat 78, Char.ofNat 101, Char.ofNat 119]
def headL : List Char := headA ++ Char.ofNat 32 :: (headS ++ Char.ofNat 32 :: (headC ++ Char.ofNat 32 :: headR))
set_option maxRecDepth 100000 in
theorem head_lit : "harness f91937bbaeb8edbd5bf532d2a453bff08e47a55afb22be5c1e9d7c01452ede07 cut at loop.example/orthologics/laws.FnDeskOk loop.example/orthologics/laws.FnDeskNew loop.example/orthologics/laws.FnExactDeskOk loop.example/orthologics/laws.FnExactDeskNew" = String.ofList [Char.ofNat 104, Char.ofNat 97, Char.ofNat 114, Char.ofNat 110, Char.ofNat 101, Char.ofNat 115, Char.ofNat 115, Char.ofNat 32, Char.ofNat 102, Char.ofNat 57, Char.ofNat 49, Char.ofNat 57, Char.ofNat 51, Char.ofNat 55, Char.ofNat 98, Char.ofNat 98, Char.ofNat 97, Char.ofNat 101, Char.ofNat 98, Char.ofNat 56, Char.ofNat 101, Char.ofNat 100, Char.ofNat 98, Char.ofNat 100, Char.ofNat 53, Char.ofNat 98, Char.ofNat 102, Char.ofNat 53, Char.ofNat 51, Char.ofNat 50, Char.ofNat 100, Char.ofNat 50, Char.ofNat 97, Char.ofNat 52, Char.ofNat 53, Char.ofNat 51, Char.ofNat 98, Char.ofNat 102, Char.ofNat 102, Char.ofNat 48, Char.ofNat 56, Char.ofNat 101, Char.ofNat 52, Char.ofNat 55, Char.ofNat 97, Char.ofNat 53, Char.ofNat 53, Char.ofNat 97, Char.ofNat 102, Char.ofNat 98, Char.ofNat 50, Char.ofNat 50, Char.ofNat 98, Char.ofNat 101, Char.ofNat 53, Char.ofNat 99, Char.ofNat 49, Char.ofNat 101, Char.ofNat 57, Char.ofNat 100, Char.ofNat 55, Char.ofNat 99, Char.ofNat 48, Char.ofNat 49, Char.ofNat 52, Char.ofNat 53, Char.ofNat 50, Char.ofNat 101, Char.ofNat 100, Char.ofNat 101, Char.ofNat 48, Char.ofNat 55, Char.ofNat 32, Char.ofNat 99, Char.ofNat 117, Char.ofNat 116, Char.ofNat 32, Char.ofNat 97, Char.ofNat 116, Char.ofNat 32, Char.ofNat 108, Char.ofNat 111, Char.ofNat 111, Char.ofNat 112, Char.ofNat 46, Char.ofNat 101, Char.ofNat 120, Char.ofNat 97, Char.ofNat 109, Char.ofNat 112, Char.ofNat 108, Char.ofNat 101, Char.ofNat 47, Char.ofNat 111, Char.ofNat 114, Char.ofNat 116, Char.ofNat 104, Char.ofNat 111, Char.ofNat 108, Char.ofNat 111, Char.ofNat 103, Char.ofNat 105, Char.ofNat 99, Char.ofNat 115, Char.ofNat 47, Char.ofNat 108, Char.ofNat 97, Char.ofNat 119, Char.ofNat 115, Char.ofNat 46, Char.ofNat 70, Char.ofNat 110, Char.ofNat 68, Char.ofNat 101, Char.ofNat 115, Char.ofNat 107, Char.ofNat 79, Char.ofNat 107, Char.ofNat 32, Char.ofNat 108, Char.ofNat 111, Char.ofNat 111, Char.ofNat 112, Char.ofNat 46, Char.ofNat 101, Char.ofNat 120, Char.ofNat 97, Char.ofNat 109, Char.ofNat 112, Char.ofNat 108, Char.ofNat 101, Char.ofNat 47, Char.ofNat 111, Char.ofNat 114, Char.ofNat 116, Char.ofNat 104, Char.ofNat 111, Char.ofNat 108, Char.ofNat 111, Char.ofNat 103, Char.ofNat 105, Char.ofNat 99, Char.ofNat 115, Char.ofNat 47, Char.ofNat 108, Char.ofNat 97, Char.ofNat 119, Char.ofNat 115, Char.ofNat 46, Char.ofNat 70, Char.ofNat 110, Char.ofNat 68, Char.ofNat 101, Char.ofNat 115, Char.ofNat 107, Char.ofNat 78, Char.ofNat 101, Char.ofNat 119, Char.ofNat 32, Char.ofNat 108, Char.ofNat 111, Char.ofNat 111, Char.ofNat 112, Char.ofNat 46, Char.ofNat 101, Char.ofNat 120, Char.ofNat 97, Char.ofNat 109, Char.ofNat 112, Char.ofNat 108, Char.ofNat 101, Char.ofNat 47, Char.ofNat 111, Char.ofNat 114, Char.ofNat 116, Char.ofNat 104, Char.ofNat 111, Char.ofNat 108, Char.ofNat 111, Char.ofNat 103, Char.ofNat 105, Char.ofNat 99, Char.ofNat 115, Char.ofNat 47, Char.ofNat 108, Char.ofNat 97, Char.ofNat 119, Char.ofNat 115, Char.ofNat 46, Char.ofNat 70, Char.ofNat 110, Char.ofNat 69, Char.ofNat 120, Char.ofNat 97, Char.ofNat 99, Char.ofNat 116, Char.ofNat 68, Char.ofNat 101, Char.ofNat 115, Char.ofNat 107, Char.ofNat 79, Char.ofNat 107, Char.ofNat 32, Char.ofNat 108, Char.ofNat 111, Char.ofNat 111, Char.ofNat 112, Char.ofNat 46, Char.ofNat 101, Char.ofNat 120, Char.ofNat 97, Char.ofNat 109, Char.ofNat 112, Char.ofNat 108, Char.ofNat 101, Char.ofNat 47, Char.ofNat 111, Char.ofNat 114, Char.ofNat 116, Char.ofNat 104, Char.ofNat 111, Char.ofNat 108, Char.ofNat 111, Char.ofNat 103, Char.ofNat 105, Char.ofNat 99, Char.ofNat 115, Char.ofNat 47, Char.ofNat 108, Char.ofNat 97, Char.ofNat 119, Char.ofNat 115, Char.ofNat 46, Char.ofNat 70, Char.ofNat 110, Char.ofNat 69, Char.ofNat 120, Char.ofNat 97, Char.ofNat 99, Char.ofNat 116, Char.ofNat 68, Char.ofNat 101, Char.ofNat 115, Char.ofNat 107, Char.ofNat 78, Char.ofNat 101, Char.ofNat 119] := by kernel_rfl
set_option maxRecDepth 100000 in
theorem head_list : [Char.ofNat 104, Char.ofNat 97, Char.ofNat 114, Char.ofNat 110, Char.ofNat 101, Char.ofNat 115, Char.ofNat 115, Char.ofNat 32, Char.ofNat 102, Char.ofNat 57, Char.ofNat 49, Char.ofNat 57, Char.ofNat 51, Char.ofNat 55, Char.ofNat 98, Char.ofNat 98, Char.ofNat 97, Char.ofNat 101, Char.ofNat 98, Char.ofNat 56, Char.ofNat 101, Char.ofNat 100, Char.ofNat 98, Char.ofNat 100, Char.ofNat 53, Char.ofNat 98, Char.ofNat 102, Char.ofNat 53, Char.ofNat 51, Char.ofNat 50, Char.ofNat 100, Char.ofNat 50, Char.ofNat 97, Char.ofNat 52, Char.ofNat 53, Char.ofNat 51, Char.ofNat 98, Char.ofNat 102, Char.ofNat 102, Char.ofNat 48, Char.ofNat 56, Char.ofNat 101, Char.ofNat 52, Char.ofNat 55, Char.ofNat 97, Char.ofNat 53, Char.ofNat 53, Char.ofNat 97, Char.ofNat 102, Char.ofNat 98, Char.ofNat 50, Char.ofNat 50, Char.ofNat 98, Char.ofNat 101, Char.ofNat 53, Char.ofNat 99, Char.ofNat 49, Char.ofNat 101, Char.ofNat 57, Char.ofNat 100, Char.ofNat 55, Char.ofNat 99, Char.ofNat 48, Char.ofNat 49, Char.ofNat 52, Char.ofNat 53, Char.ofNat 50, Char.ofNat 101, Char.ofNat 100, Char.ofNat 101, Char.ofNat 48, Char.ofNat 55, Char.ofNat 32, Char.ofNat 99, Char.ofNat 117, Char.ofNat 116, Char.ofNat 32, Char.ofNat 97, Char.ofNat 116, Char.ofNat 32, Char.ofNat 108, Char.ofNat 111, Char.ofNat 111, Char.ofNat 112, Char.ofNat 46, Char.ofNat 101, Char.ofNat 120, Char.ofNat 97, Char.ofNat 109, Char.ofNat 112, Char.ofNat 108, Char.ofNat 101, Char.ofNat 47, Char.ofNat 111, Char.ofNat 114, Char.ofNat 116, Char.ofNat 104, Char.ofNat 111, Char.ofNat 108, Char.ofNat 111, Char.ofNat 103, Char.ofNat 105, Char.ofNat 99, Char.ofNat 115, Char.ofNat 47, Char.ofNat 108, Char.ofNat 97, Char.ofNat 119, Char.ofNat 115, Char.ofNat 46, Char.ofNat 70, Char.ofNat 110, Char.ofNat 68, Char.ofNat 101, Char.ofNat 115, Char.ofNat 107, Char.ofNat 79, Char.ofNat 107, Char.ofNat 32, Char.ofNat 108, Char.ofNat 111, Char.ofNat 111, Char.ofNat 112, Char.ofNat 46, Char.ofNat 101, Char.ofNat 120, Char.ofNat 97, Char.ofNat 109, Char.ofNat 112, Char.ofNat 108, Char.ofNat 101, Char.ofNat 47, Char.ofNat 111, Char.ofNat 114, Char.ofNat 116, Char.ofNat 104, Char.ofNat 111, Char.ofNat 108, Char.ofNat 111, Char.ofNat 103, Char.ofNat 105, Char.ofNat 99, Char.ofNat 115, Char.ofNat 47, Char.ofNat 108, Char.ofNat 97, Char.ofNat 119, Char.ofNat 115, Char.ofNat 46, Char.ofNat 70, Char.ofNat 110, Char.ofNat 68, Char.ofNat 101, Char.ofNat 115, Char.ofNat 107, Char.ofNat 78, Char.ofNat 101, Char.ofNat 119, Char.ofNat 32, Char.ofNat 108, Char.ofNat 111, Char.ofNat 111, Char.ofNat 112, Char.ofNat 46, Char.ofNat 101, Char.ofNat 120, Char.ofNat 97, Char.ofNat 109, Char.ofNat 112, Char.ofNat 108, Char.ofNat 101, Char.ofNat 47, Char.ofNat 111, Char.ofNat 114, Char.ofNat 116, Char.ofNat 104, Char.ofNat 111, Char.ofNat 108, Char.ofNat 111, Char.ofNat 103, Char.ofNat 105, Char.ofNat 99, Char.ofNat 115, Char.ofNat 47, Char.ofNat 108, Char.ofNat 97, Char.ofNat 119, Char.ofNat 115, Char.ofNat 46, Char.ofNat 70, Char.ofNat 110, Char.ofNat 69, Char.ofNat 120, Char.ofNat 97, Char.ofNat 99, Char.ofNat 116, Char.ofNat 68, Char.ofNat 101, Char.ofNat 115, Char.ofNat 107, Char.ofNat 79, Char.ofNat 107, Char.ofNat 32, Char.ofNat 108, Char.ofNat 111, Char.ofNat 111, Char.ofNat 112, Char.ofNat 46, Char.ofNat 101, Char.ofNat 120, Char.ofNat 97, Char.ofNat 109, Char.ofNat 112, Char.ofNat 108, Char.ofNat 101, Char.ofNat 47, Char.ofNat 111, Char.ofNat 114, Char.ofNat 116, Char.ofNat 104, Char.ofNat 111, Char.ofNat 108, Char.ofNat 111, Char.ofNat 103, Char.ofNat 105, Char.ofNat 99, Char.ofNat 115, Char.ofNat 47, Char.ofNat 108, Char.ofNat 97, Char.ofNat 119, Char.ofNat 115, Char.ofNat 46, Char.ofNat 70, Char.ofNat 110, Char.ofNat 69, Char.ofNat 120, Char.ofNat 97, Char.ofNat 99, Char.ofNat 116, Char.ofNat 68, Char.ofNat 101, Char.ofNat 115, Char.ofNat 107, Char.ofNat 78, Char.ofNat 101, Char.ofNat 119] = headL := by kernel_rfl
theorem init_lit : Try.checked.prog.initOrder = "harness f91937bbaeb8edbd5bf532d2a453bff08e47a55afb22be5c1e9d7c01452ede07 cut at loop.example/orthologics/laws.FnDeskOk loop.example/orthologics/laws.FnDeskNew loop.example/orthologics/laws.FnExactDeskOk loop.example/orthologics/laws.FnExactDeskNew" := by kernel_rfl
theorem init_list : Try.checked.prog.initOrder.toList = headL := ((congrArg String.toList (init_lit.trans head_lit)).trans String.toList_ofList).trans head_list
theorem head_words : wordsSigns headL = headA :: headS :: headC :: wordsSigns headR :=
  (words_cut headA _ (by decide +kernel)).trans (congrArg (headA :: ·) ((words_cut headS _ (by decide +kernel)).trans (congrArg (headS :: ·) (words_cut headC _ (by decide +kernel)))))
theorem head_behind : behindMainWord (wordsSigns Try.checked.prog.initOrder.toList) = "cut".toList :: wordsSigns headR := by
  rw [init_list, head_words]
  kernel_rfl
theorem lays : Try.checked.prog.laysLater = false := by kernel_rfl
theorem bears : Try.checked.prog.bearsReflect = false := by kernel_rfl
theorem door : Try.checked.prog.doorFits [] = true := by kernel_rfl
theorem may_enter : Try.checked.prog.mayEnter = true := may_of head_behind door lays bears
theorem lifts_final : Try.checked.prog.liftsFinal = false := lifts_of head_behind
theorem make_cut : Try.checked.prog.make = some .cut := make_of head_behind
end Go.Proofs.Ytojcgmgponnlpaa
namespace Go.Proofs.Ytojcgmgponnlpaa
open Go.ChangeShapes Go.WideShapes Go.ChangeAt Go.RowKit Go.Deep

end Go.Proofs.Ytojcgmgponnlpaa
