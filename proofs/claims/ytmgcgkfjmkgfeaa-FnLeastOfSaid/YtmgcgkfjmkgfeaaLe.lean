/- The law on OrderOk, walked at whatever code. -/
import Derived.Test.YtmgcgkfjmkgfeaaDe
import Derived.Test.YtmgcgkfjmkgfeaaWr
import Derived.Test.YtmgcgkfjmkgfeaaWc
namespace Go.Proofs.Ytmgcgkfjmkgfeaa
open Go.RowKit Go.Deep

def oneM (x : Int) : Mx := ⟨1, fun _ => 1, fun _ _ => x⟩
def oneLay (N : Nat) : Lay := ⟨N + 1, 0, 1, fun _ => some ⟨N, 0, none⟩, fun _ => 1, fun _ => N, fun _ => 0⟩
theorem one_at (w : World) (x : Int) : MatAt ((w.alloc (.cells #[.int .i64 x] 3)).alloc (.cells #[.slice (some ⟨w.heap.size, 0, none⟩) 1 1] 26)) (w.heap.size + 2) (some ⟨w.heap.size + 1, 0, none⟩) (oneLay w.heap.size) (oneM x) := by
  have b0 := (Boxed.new w 3 (.int .i64 x)).alloc (.cells #[.slice (some ⟨w.heap.size, 0, none⟩) 1 1] 26)
  have b1 := Boxed.new (w.alloc (.cells #[.int .i64 x] 3)) 26 (.slice (some ⟨w.heap.size, 0, none⟩) 1 1)
  rw [World.size_alloc] at b1
  refine ⟨fun r hr => ?_, fun r hr c hc => ?_⟩
  · have hr' : r < 1 := hr
    obtain rfl : r = 0 := by omega
    exact ⟨rfl, by show w.heap.size + 1 < _; omega, b1.cell⟩
  · have hc' : c < 1 := hc
    obtain rfl : c = 0 := by omega
    exact ⟨rfl, by show w.heap.size < _; omega, b0.cell⟩
theorem one_order : orderB (oneM 1) = true := orderB_true ⟨Nat.le_refl 1, by show 1 ≤ 12; omega, ⟨fun _ _ => rfl, fun _ _ _ _ => .inr rfl⟩, fun _ _ => rfl, fun a b ha hb hne => by
  have ha' : a < 1 := ha
  have hb' : b < 1 := hb
  exact absurd (by omega) hne, fun _ _ _ _ _ _ _ _ => rfl⟩
theorem zero_order : orderB (oneM 0) = false := orderB_false fun h => by
  have : (0 : Int) = 1 := h.refl 0 (by show 0 < 1; omega)
  omega
theorem OrderOk_one (w : World) (x : Int) : Calls Try.prog 18 #[.slice (some ⟨w.heap.size + 1, 0, none⟩) 1 1] ((w.alloc (.cells #[.int .i64 x] 3)).alloc (.cells #[.slice (some ⟨w.heap.size, 0, none⟩) 1 1] 26)) fun e w' =>
    e = .returned (.bool (orderB (oneM x))) ∧ Below (w.heap.size + 2) ((w.alloc (.cells #[.int .i64 x] 3)).alloc (.cells #[.slice (some ⟨w.heap.size, 0, none⟩) 1 1] 26)) w' :=
  (OrderOk_any (m := oneM x) (l := oneLay w.heap.size) (by show 1 ≤ _; omega) (fun _ _ => by show 1 ≤ _; omega) (one_at w x) (by simp)).mono fun _ _ ⟨he, hb⟩ => ⟨he, hb.mono (by simp)⟩

set_option maxHeartbeats 400000 in
theorem alive_any (w : World) : Calls Try.prog 21 #[] w fun e w' => e = .returned (.bool true) ∧ Below w.heap.size w w' := by
  go_enter Try.func21, Try.ntmps21
  go_wp2_with fail
  go_at_call 18
  refine (OrderOk_one w 1).mono ?_
  rintro e w1 ⟨rfl, hb1⟩
  rw [one_order]
  have B1 : Below w.heap.size w w1 := (((Below.refl w.heap.size w).alloc (Nat.le_refl _) _).alloc (by simp) _).trans (hb1.mono (by omega))
  clear hb1
  go_wp2_with fail
  go_at_call 18
  refine (OrderOk_one w1 0).mono ?_
  rintro e w2 ⟨rfl, hb2⟩
  rw [zero_order]
  have B2 : Below w.heap.size w w2 := ((B1.alloc B1.size _).alloc (by have := B1.size; simp; omega) _).trans (hb2.mono (by have := B1.size; omega))
  clear hb2
  go_wp2_with fail
  go_ret
  exact ⟨rfl, B2⟩

theorem OrderOk_tr {w : World} {b : Nat} {G : Nat → Nat} {m : Mx} (ho : orderB m = true) (h : OwnMat w b G (tr m)) :
    Calls Try.prog 18 #[.slice (some ⟨b, 0, none⟩) m.n m.n] w fun e w' => e = .returned (.bool true) ∧ Below w.heap.size w w' := by
  have h12 := (orderB_is ho).top
  have := OrderOk_any (m := tr m) (l := ownLay b G (tr m)) (by show m.n ≤ _; omega) (fun _ _ => by show m.n ≤ _; omega) h.mat (Nat.le_refl _)
  rw [orderB_true (tr_order (orderB_is ho))] at this
  exact this

set_option maxRecDepth 100000 in
set_option maxHeartbeats 1000000 in
theorem law_OrderOk {A : Option Addr} {b o n cap : Nat} {z : Nat → Nat} {w : World} (h : CodeAt w A b o n cap z) :
    Calls Try.prog 3 #[.slice A n cap] w fun e w' => e = .returned (.bool true) ∧ Below w.heap.size w w' := by
  have hn := h.hn
  have hc := h.hc
  by_cases hbig : 1048576 < n
  · have hbig' : (1048576 : Int) < n := by omega
    clear h
    go_enter Try.func3, Try.ntmps3
    go_wp2_with fail
    go_ret
    exact ⟨rfl, Below.refl _ _⟩
  · have hbig' : ¬ (1048576 : Int) < n := by omega
    go_enter Try.func3, Try.ntmps3
    go_wp2_with fail
    go_at_call 17
    refine (draw_OrderOk h).mono ?_
    rintro e w1 ⟨a, l, m, rfl, hm, h12, hL, b1⟩
    clear h
    have hn1 : m.n ≤ 9223372036854775807 := by omega
    have hL1 : ∀ r, r < m.n → m.L r ≤ 9223372036854775807 := fun r hr => by have := hL r hr; omega
    have HL := Lib.hid hL1
    clear hL hL1
    go_wp2_with fail
    go_at_call 18
    refine (OrderOk_any hn1 HL.out hm (Nat.le_refl _)).mono ?_
    rintro e w2 ⟨rfl, b2⟩
    have hm2 := (hm.below b2).more b2.size
    have B2 := b1.trans (b2.mono b1.size)
    clear hm
    go_wp2_with fail
    go_at_call 19
    refine (spec_OrderOk _ _ _ _ _ hn1 HL.out hm2).mono ?_
    rintro e w3 ⟨rfl, rfl⟩
    have s2 := B2.size
    cases ho : orderB m with
    | false =>
      have HO := Lib.hid ho
      clear ho
      go_wp2_with fail
      go_at_call 18
      refine (OrderOk_one w2 1).mono ?_
      rintro e w4 ⟨rfl, b4⟩
      rw [one_order]
      have B4 : Below w.heap.size w w4 := ((B2.alloc s2 _).alloc (by simp; omega) _).trans (b4.mono (by omega))
      clear b4
      go_wp2_with fail
      go_at_call 21
      refine (alive_any _).mono ?_
      rintro e w5 ⟨rfl, b5⟩
      go_wp2_with fail
      go_ret
      exact ⟨rfl, B4.trans (b5.mono B4.size)⟩
    | true =>
      have HO := Lib.hid ho
      clear ho
      go_wp2_with fail
      go_at_call 18
      refine (OrderOk_one w2 1).mono ?_
      rintro e w4 ⟨rfl, b4⟩
      rw [one_order]
      have q4 : Below w2.heap.size w2 w4 := (((Below.refl w2.heap.size w2).alloc (Nat.le_refl _) _).alloc (by simp) _).trans (b4.mono (by omega))
      have B4 : Below w.heap.size w w4 := B2.trans (q4.mono s2)
      have hm4 := (hm2.below q4).more q4.size
      clear b4 hm2
      go_wp2_with fail
      go_at_call 20
      refine (TurnedOf_yes hn1 HL.out hm4 (Nat.le_refl _) HO.out).mono ?_
      rintro e w5 ⟨tb, tG, rfl, b5, ho5, _, _⟩
      have B5 := B4.trans (b5.mono B4.size)
      go_wp2_with fail
      go_at_call 18
      refine (OrderOk_tr HO.out ho5).mono ?_
      rintro e w6 ⟨rfl, b6⟩
      have B6 := B5.trans (b6.mono B5.size)
      clear ho5 hm4
      go_wp2_with fail
      go_at_call 21
      refine (alive_any _).mono ?_
      rintro e w7 ⟨rfl, b7⟩
      go_wp2_with fail
      go_ret
      exact ⟨rfl, B6.trans (b7.mono B6.size)⟩
end Go.Proofs.Ytmgcgkfjmkgfeaa
