/- What every row of this seat needs: the argument of rows opened as it lies in memory, and the row's last step where the call has only made memory. -/
import Derived.Test.YtijcacibofpnpaaLa
import Derived.Test.YtijcacibofpnpaaRows
import Derived.ProofKit
import Derived.Deep.Matrix
namespace Go.Proofs.Ytijcacibofpnpaa
open Go.ChangeShapes Go.WideShapes Go.ChangeAt Go.RowKit Go.Deep

theorem progOwn : ownKnob Try.prog.godebug = none := by kernel_rfl
theorem progLaid : laidOutB Try.prog = true := by kernel_rfl
theorem cellsRows : Try.prog.cellsOf 23 = 1 := by kernel_rfl
theorem cellsInts : Try.prog.cellsOf 24 = 1 := by kernel_rfl
theorem cellsInt : Try.prog.cellsOf 3 = 1 := by kernel_rfl

section
variable {H : Type} {enc : TypeId × Value → H} {P : Program}
theorem post_of_below {f : Func} {s : ChangeSpec} {apart fresh handsOn again : Bool} {W W' : World} {args : Array Value} {v : Value} {ds gs : List (DataW H)} {before pa pv : List MemPlace}
    (hW : DataW.Whole enc P f.params.toList s.vars apart W args.toList ds gs before)
    (hres : ∀ (b : Nat) (sp : Nat → Bool) (hd : Bool), DataW.TrodAll enc P W' b sp hd f.resultTypes.toList (v.resultList f.resultTypes.size) (s.fn H (ds ++ gs)).results [])
    (hargs : ∀ sp : Nat → Bool, (∀ p ∈ before, sp p.block = true) → DataW.TrodAll enc P W' 0 sp true f.params.toList args.toList (s.fn H (ds ++ gs)).args pa)
    (hvars : ∀ sp : Nat → Bool, (∀ p ∈ before, sp p.block = true) → DataW.TrodVars enc P W' sp s.vars (s.fn H (ds ++ gs)).vars pv)
    (hps : before = pa ++ pv) (hb : Below W.heap.size W W')
    (hok : ∀ (j : Nat) (t : TypeId) (r : Value), f.resultTypes[j]? = some t → (v.resultList f.resultTypes.size)[j]? = some r → Value.okWide P W' .any 0 t r) :
    s.post enc P f apart fresh handsOn again W args v W' := by
  have hlt : ∀ p ∈ before, p.block < W.heap.size := fun p hp => hW.lt p hp
  have hold : ∀ p ∈ before, (fun b => decide (b < W.heap.size)) p.block = true := fun p hp => by simpa using hlt p hp
  refine ⟨ds, gs, before, [], pa, pv, hW, hres _ _ _, hargs _ hold, hvars _ hold, World.keptBut_mono (fun p hp => ⟨hp, ?_⟩) (hb.frame (· ∈ before)), fun _ => ?_⟩
  · rw [hps, List.mem_append] at hp
    exact Or.inr hp
  · obtain ⟨_, _, _, _, _, hz, hn⟩ := hW
    refine ⟨hok, _, _, ([] ++ pa) ++ pv, ⟨[] ++ pa, pv, trodAll_append (hargs _ (fun _ _ => rfl)) (hres _ _ _), hvars _ (fun _ _ => rfl), rfl, ?_, ?_⟩, ?_⟩
    · intro b off hp
      have hin : MemPlace.cell b off ∈ before := by rw [hps]; simpa using hp
      rw [hb.frozen (hlt _ hin)]
      exact hz b off hin
    · intro ha
      have := hn ha
      rw [hps] at this
      simpa using this
    · intro p hp _
      rw [hps]
      simpa using hp
end

/-- An argument of type [][]int, opened: some rows of numbers lie there. -/
theorem open_mx {H : Type} {enc : TypeId × Value → H} {W : World} {base fuel : Nat} {a : Option Addr} {len cap : Nat} {x : DataW H × List MemPlace}
    (h : DataW.trod enc Try.prog W base (fun _ => true) true fuel 23 [.slice a len cap] = some x) : ∃ (l : Lay) (m : Mx), m.n = len ∧ l.cap = cap ∧ ArgAt W a l m := by
  rcases open_int_rows Try.underlying23 Try.underlying24 Try.underlying3 cellsInts cellsInt h with ⟨hcs, _⟩ | ⟨a', len', cap', A, L, C, Z, hcs, _, hl, hm, _, hrows⟩
  · simp only [List.cons.injEq, and_true, Value.slice.injEq] at hcs
    obtain ⟨rfl, rfl, rfl⟩ := hcs
    exact ⟨⟨0, 0, 0, fun _ => none, fun _ => 0, fun _ => 0, fun _ => 0⟩, ⟨0, fun _ => 0, fun _ _ => 0⟩, rfl, rfl, ⟨fun r hr => absurd hr (Nat.not_lt_zero _), fun r hr => absurd hr (Nat.not_lt_zero _)⟩, Nat.zero_le _, fun r hr => absurd hr (Nat.not_lt_zero _)⟩
  · simp only [List.cons.injEq, and_true, Value.slice.injEq] at hcs
    obtain ⟨rfl, rfl, rfl⟩ := hcs
    have hml : maxLen = 9223372036854775807 := rfl
    refine ⟨⟨a'.block, a'.off, cap, A, C, fun r => ((A r).getD default).block, fun r => ((A r).getD default).off⟩, ⟨len, L, fun r c => (Z r).getD c 0⟩, rfl, rfl, ⟨fun r hr => ?_, fun r hr c hc => ?_⟩, by show len ≤ _; omega, fun r hr => by
      obtain ⟨_, h1, h2, _⟩ := hrows r (by have : r < len := hr; omega)
      show L r ≤ _
      omega⟩
    · have hr' : r < len := hr
      obtain ⟨b, o, sp⟩ := a'
      have hc := (hrows r (by omega)).1
      have hs : sp = none := by simpa [Addr.add] using World.cell?_spot (hrows 0 (by omega)).1
      subst hs
      rw [add_plain] at hc
      exact ⟨rfl, World.block_lt_of_cell? _ _ hc, hc⟩
    · have hr' : r < len := hr
      have hc' : c < L r := hc
      obtain ⟨_, h1, _, h2, _, h3, h4⟩ := hrows r (by omega)
      cases hA' : A r with
      | none =>
        have := h3 hA'
        omega
      | some a'' =>
        obtain ⟨_, hcell⟩ := h4 a'' hA'
        obtain ⟨b, o, sp⟩ := a''
        have hcc := hcell c (by omega)
        have hs : sp = none := by simpa [Addr.add] using World.cell?_spot (hcell 0 (by omega))
        subst hs
        rw [add_plain] at hcc
        simp only [hA', Option.getD_some]
        exact ⟨trivial, World.block_lt_of_cell? _ _ hcc, hcc⟩
end Go.Proofs.Ytijcacibofpnpaa
