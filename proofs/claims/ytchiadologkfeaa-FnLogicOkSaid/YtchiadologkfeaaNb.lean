/- The law on LogicOk, walked at whatever code. -/
import Derived.Test.YtchiadologkfeaaNa
namespace Go.Proofs.Ytchiadologkfeaa
open Go.RowKit Go.Deep

def twoZ (r c : Nat) : Int := if r ≤ c then 1 else 0
def twoM : Mx := ⟨2, fun _ => 2, twoZ⟩
def twoN (c : Nat) : Int := 1 - (c : Int)
theorem two_logic : logicB twoM 2 twoN = true := by
  refine logicB_true ⟨⟨⟨by decide, by decide, ⟨fun _ _ => rfl, fun r _ c _ => ?_⟩, fun a _ => ?_, fun a b ha hb => ?_, fun a b c ha hb hc => ?_⟩, fun a b ha hb => ⟨?_, ?_⟩⟩, ⟨rfl, fun a ha => ?_, fun a ha => ?_, fun a ha => ?_⟩, by decide, by decide⟩
  · show twoZ r c = 0 ∨ twoZ r c = 1
    unfold twoZ
    split
    · exact .inr rfl
    · exact .inl rfl
  · show twoZ a a = 1
    unfold twoZ
    rw [if_pos (Nat.le_refl a)]
  · have h : ∀ a, a < 2 → ∀ b, b < 2 → a ≠ b → twoM.Z a b = 1 → twoM.Z b a = 0 := by decide
    exact h a ha b hb
  · have h : ∀ a, a < 2 → ∀ b, b < 2 → ∀ c, c < 2 → twoM.Z a b = 1 → twoM.Z b c = 1 → twoM.Z a c = 1 := by decide
    exact h a ha b hb c hc
  · have h : ∀ a, a < 2 → ∀ b, b < 2 → hasI (meetI twoM a b) = true := by decide
    exact h a ha b hb
  · have h : ∀ a, a < 2 → ∀ b, b < 2 → hasI (meetI (tr twoM) a b) = true := by decide
    exact h a ha b hb
  · have h : ∀ a, a < 2 → 0 ≤ twoN a := by decide
    exact h a ha
  · have h : ∀ a, a < 2 → twoN a < 2 := by decide
    exact h a ha
  · have h : ∀ a, a < 2 → twoN (twoN a).toNat = (a : Int) := by decide
    exact h a ha
def twoOs (s : Nat) : List Obj := [
  .cells #[.int .i64 1, .int .i64 1] 3,
  .cells #[.int .i64 0, .int .i64 1] 3,
  .cells #[.slice (some ⟨s, 0, none⟩) 2 2, .slice (some ⟨s + 1, 0, none⟩) 2 2] 24,
  .cells #[.int .i64 1, .int .i64 0] 3]
def twoLay (s : Nat) : Lay := ⟨s + 1 + 1, 0, 2, fun r => some ⟨s + r, 0, none⟩, fun _ => 2, fun r => s + r, fun _ => 0⟩
theorem cell_of {w : World} {b i : Nat} {arr : Array Value} {t : TypeId} {v : Value} (h : w.heap[b]? = some (.cells arr t (0, 0))) (hi : arr[i]? = some v) : w.cell? ⟨b, i, none⟩ = some v := by simp only [World.cell?, h]; simpa using hi
theorem twolog_at (w : World) : LogAt (allocs w (twoOs w.heap.size)) (w.heap.size + 4) (some ⟨w.heap.size + 1 + 1, 0, none⟩) (twoLay w.heap.size) twoM (some ⟨w.heap.size + 1 + 1 + 1, 0, none⟩) (w.heap.size + 1 + 1 + 1) 0 2 twoN := by
  have g0 : (allocs w (twoOs w.heap.size)).heap[w.heap.size + 0]? = some (.cells #[.int .i64 1, .int .i64 1] 3 (0, 0)) := allocs_get (twoOs w.heap.size) w 0 (by show 0 < 4; omega)
  have g1 : (allocs w (twoOs w.heap.size)).heap[w.heap.size + 1]? = some (.cells #[.int .i64 0, .int .i64 1] 3 (0, 0)) := allocs_get (twoOs w.heap.size) w 1 (by show 1 < 4; omega)
  have g2 : (allocs w (twoOs w.heap.size)).heap[w.heap.size + 2]? = some (.cells #[.slice (some ⟨w.heap.size, 0, none⟩) 2 2, .slice (some ⟨w.heap.size + 1, 0, none⟩) 2 2] 24 (0, 0)) := allocs_get (twoOs w.heap.size) w 2 (by show 2 < 4; omega)
  have g3 : (allocs w (twoOs w.heap.size)).heap[w.heap.size + 3]? = some (.cells #[.int .i64 1, .int .i64 0] 3 (0, 0)) := allocs_get (twoOs w.heap.size) w 3 (by show 3 < 4; omega)
  have hsz : w.heap.size + 4 ≤ (allocs w (twoOs w.heap.size)).heap.size := by
    have := Array.getElem?_eq_some_iff.1 g3
    obtain ⟨h, _⟩ := this
    omega
  refine ⟨⟨fun r hr => ?_, fun r hr c hc => ?_⟩, ⟨fun c hc => ?_⟩, by decide, fun _ _ => by show 2 ≤ _; omega, by omega, hsz⟩
  · have hr' : r < 2 := hr
    have h2 : r = 0 ∨ r = 1 := by omega
    refine ⟨rfl, by show w.heap.size + 1 + 1 < _; omega, ?_⟩
    rcases h2 with rfl | rfl
    · exact cell_of g2 rfl
    · exact cell_of g2 rfl
  · have hr' : r < 2 := hr
    have hc' : c < 2 := hc
    have h2 : r = 0 ∨ r = 1 := by omega
    have h3 : c = 0 ∨ c = 1 := by omega
    refine ⟨rfl, by show w.heap.size + r < _; omega, ?_⟩
    rcases h2 with rfl | rfl
    · rcases h3 with rfl | rfl
      · exact cell_of g0 rfl
      · exact cell_of g0 rfl
    · rcases h3 with rfl | rfl
      · exact cell_of g1 rfl
      · exact cell_of g1 rfl
  · have h3 : c = 0 ∨ c = 1 := by omega
    refine ⟨rfl, by omega, ?_⟩
    rcases h3 with rfl | rfl
    · exact cell_of g3 rfl
    · exact cell_of g3 rfl
theorem LogicOk_two (w : World) : Calls Try.prog 11 #[.agg #[.slice (some ⟨w.heap.size + 1 + 1, 0, none⟩) 2 2, .slice (some ⟨w.heap.size + 1 + 1 + 1, 0, none⟩) 2 2]] (allocs w (twoOs w.heap.size)) fun e w' => e = .returned (.bool true) ∧ Below w.heap.size w w' :=
  (LogicOk_any (m := twoM) (l := twoLay w.heap.size) (nc := 2) (twolog_at w)).mono fun _ _ ⟨he, hb⟩ => ⟨by rw [he, two_logic], (allocs_below _ w).trans (hb.mono (allocs_below _ w).size)⟩

set_option maxRecDepth 100000 in
set_option maxHeartbeats 1000000 in
theorem law_LogicOk {A : Option Addr} {b o n cap : Nat} {z : Nat → Nat} {w : World} (h : CodeAt w A b o n cap z) :
    Calls Try.prog 3 #[.slice A n cap] w fun e w' => e = .returned (.bool true) ∧ Below w.heap.size w w' := by
  have hn := h.hn
  have hc := h.hc
  by_cases hbig : 1048576 < n
  · have hbig' : (1048576 : Int) < n := by omega
    clear h
    go_enter Try.func3, Try.ntmps3
    go_wp2_with fail
    go_ret
    exact ⟨rfl, Below.refl _ _⟩
  · have hbig' : ¬ (1048576 : Int) < n := by omega
    go_enter Try.func3, Try.ntmps3
    go_wp2_with fail
    go_at_call 10
    refine (draw_LogicOk h).mono ?_
    rintro e w1 ⟨ua, l, m, na, g, o2, k, nc, zz, rfl, hF⟩
    have H1 := Held.start hF nc
    clear h hF
    have q0 := H1.box.c0
    have q1 := H1.box.c1
    go_wp2_with fail
    go_at_call 11
    refine (LogicOk_any H1.log).mono ?_
    rintro e w2 ⟨rfl, b2⟩
    have H2 := H1.step b2
    clear H1 q0 q1 b2
    have q0 := H2.box.c0
    have q1 := H2.box.c1
    go_wp2_with fail
    go_at_call 12
    refine (spec_LogicOk H2.log).mono ?_
    rintro e w3 ⟨rfl, b3⟩
    have H3 := H2.step b3
    clear H2 q0 q1 b3
    cases hl : logicB m k zz with
    | false =>
      clear hl
      go_wp2_with fail
      go_at_call 11
      refine (LogicOk_two w3).mono ?_
      rintro e w4 ⟨rfl, b4⟩
      have H4 := H3.step b4
      clear H3 b4
      go_wp2_with fail
      go_at_call 13
      refine (alive_any _).mono ?_
      rintro e w5 ⟨rfl, b5⟩
      have H5 := H4.step b5
      go_wp2_with fail
      go_ret
      exact ⟨rfl, H5.old⟩
    | true =>
      have hlog := logicB_is hl
      have hk := hlog.pair.len
      obtain ⟨y, o, hO⟩ := hlog.ortho
      have hev := hO.even
      rw [← hk] at hev
      clear hl hlog hO hk
      by_cases h1 : k = 1
      · subst h1
        go_wp2_with fail
        go_at_call 11
        refine (LogicOk_two w3).mono ?_
        rintro e w4 ⟨rfl, b4⟩
        have H4 := H3.step b4
        clear H3 b4
        have q1 := H4.box.c1
        go_wp2_with fail
        go_at_call 13
        refine (alive_any _).mono ?_
        rintro e w5 ⟨rfl, b5⟩
        have H5 := H4.step b5
        go_wp2_with fail
        go_ret
        exact ⟨rfl, H5.old⟩
      · have e1 : ((k : Int) == 1) = false := by simp; omega
        have e2 : (k : Int).tmod 2 = 0 := by
          have : k % 2 = 0 := by omega
          rw [Int.tmod_eq_emod_of_nonneg (by omega)]
          omega
        have e3 : ((k : Int) % 2 == 0) = true := by simp; omega
        clear h1 hev
        go_wp2_with fail
        go_at_call 11
        refine (LogicOk_two w3).mono ?_
        rintro e w4 ⟨rfl, b4⟩
        have H4 := H3.step b4
        clear H3 b4
        have q1 := H4.box.c1
        go_wp2_with fail
        go_at_call 13
        refine (alive_any _).mono ?_
        rintro e w5 ⟨rfl, b5⟩
        have H5 := H4.step b5
        go_wp2_with fail
        go_ret
        exact ⟨rfl, H5.old⟩
end Go.Proofs.Ytchiadologkfeaa
