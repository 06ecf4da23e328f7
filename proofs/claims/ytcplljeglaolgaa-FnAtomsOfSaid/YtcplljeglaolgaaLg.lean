/- The law on TurnedOf, walked at whatever code. -/
import Derived.Test.YtcplljeglaolgaaLe
import Derived.Test.YtcplljeglaolgaaWz
import Derived.Test.YtcplljeglaolgaaLc
import Derived.Test.YtcplljeglaolgaaSa
namespace Go.Proofs.Ytcplljeglaolgaa
open Go.RowKit Go.Deep

def emptyM : Mx := ⟨0, fun _ => 0, fun _ _ => 0⟩
def emptyLay (c : Nat) : Lay := ⟨0, 0, c, fun _ => none, fun _ => 0, fun _ => 0, fun _ => 0⟩
theorem empty_at (w : World) (B : Nat) (a : Option Addr) (c : Nat) : MatAt w B a (emptyLay c) emptyM :=
  ⟨fun _ hr => absurd hr (Nat.not_lt_zero _), fun _ hr => absurd hr (Nat.not_lt_zero _)⟩
theorem sameRows_nil (w : World) (a a' : Option Addr) (c c' : Nat) : Calls Try.prog 35 #[.slice a 0 c, .slice a' 0 c'] w fun e w' => e = .returned (.bool true) ∧ Drew w w' :=
  sameRows_same 0 a a' (emptyLay c) (emptyLay c') emptyM w (Nat.zero_le _) (fun _ _ => Nat.zero_le _) (empty_at w 0 a c) (empty_at w 0 a' c')
theorem OwnMat.step {w w' : World} {b : Nat} {G : Nat → Nat} {m : Mx} (h : OwnMat w b G m) (hb : Below w.heap.size w w') : OwnMat w' b G m :=
  h.below hb h.top.lt fun r hr => (h.row r hr).lt
theorem sameRows_tr {w : World} {b : Nat} {G : Nat → Nat} {a : Option Addr} {l : Lay} {m : Mx} (h12 : m.n ≤ 12) (h : OwnMat w b G (tr m)) (h' : MatAt w w.heap.size a l (tr m)) :
    Calls Try.prog 35 #[.slice (some ⟨b, 0, none⟩) m.n m.n, .slice a m.n l.cap] w fun e w' => e = .returned (.bool true) ∧ Drew w w' :=
  sameRows_same w.heap.size (some ⟨b, 0, none⟩) a (ownLay b G (tr m)) l (tr m) w (by show m.n ≤ _; omega) (fun _ _ => by show m.n ≤ _; omega) h.mat h'
theorem sameRows_tr2 {w : World} {b : Nat} {G : Nat → Nat} {a : Option Addr} {l : Lay} {m : Mx} (h12 : m.n ≤ 12) (hs : Square m) (h : OwnMat w b G (tr (tr m))) (h' : MatAt w w.heap.size a l m) :
    Calls Try.prog 35 #[.slice (some ⟨b, 0, none⟩) m.n m.n, .slice a m.n l.cap] w fun e w' => e = .returned (.bool true) ∧ Drew w w' :=
  sameRows_same w.heap.size (some ⟨b, 0, none⟩) a (ownLay b G (tr (tr m))) l m w (by omega) (fun r hr => by rw [hs.len r hr]; omega) (h.mat.as rfl (fun r hr => hs.len r hr) fun _ _ _ _ => rfl) h'
theorem TurnedOf_tr {w : World} {b : Nat} {G : Nat → Nat} {m : Mx} (ho : orderB m = true) (h : OwnMat w b G (tr m)) :
    Calls Try.prog 29 #[.slice (some ⟨b, 0, none⟩) m.n m.n] w (TurnRes (tr m) w) := by
  have h12 := (orderB_is ho).top
  exact TurnedOf_yes (m := tr m) (l := ownLay b G (tr m)) (by show m.n ≤ _; omega) (fun _ _ => by show m.n ≤ _; omega) h.mat (Nat.le_refl _) (orderB_true (tr_order (orderB_is ho)))

set_option maxRecDepth 100000 in
set_option maxHeartbeats 1000000 in
theorem law_TurnedOf {A : Option Addr} {b o n cap : Nat} {z : Nat → Nat} {w : World} (h : CodeAt w A b o n cap z) :
    Calls Try.prog 6 #[.slice A n cap] w fun e w' => e = .returned (.bool true) ∧ Below w.heap.size w w' := by
  have hn := h.hn
  have hc := h.hc
  by_cases hbig : 1048576 < n
  · have hbig' : (1048576 : Int) < n := by omega
    clear h
    go_enter Try.func6, Try.ntmps6
    go_wp2_with fail
    go_ret
    exact ⟨rfl, Below.refl _ _⟩
  · have hbig' : ¬ (1048576 : Int) < n := by omega
    go_enter Try.func6, Try.ntmps6
    go_wp2_with fail
    go_at_call 34
    refine (draw_TurnedOf h).mono ?_
    rintro e w1 ⟨a, l, m, rfl, hm, h12, hL, b1⟩
    clear h
    have hn1 : m.n ≤ 9223372036854775807 := by omega
    have hL1 : ∀ r, r < m.n → m.L r ≤ 9223372036854775807 := fun r hr => by have := hL r hr; omega
    have HL := Lib.hid hL1
    clear hL hL1
    cases ho : orderB m with
    | false =>
      have HO := Lib.hid ho
      clear ho
      go_wp2_with fail
      go_at_call 29
      refine (TurnedOf_no hn1 HL.out hm (Nat.le_refl _) HO.out).mono ?_
      rintro e w2 ⟨rfl, b2⟩
      have hm2 := (hm.below b2).more b2.size
      have B2 := b1.trans (b2.mono b1.size)
      clear hm
      go_wp2_with fail
      go_at_call 36
      refine (spec_TurnedOf_no hn1 HL.out hm2 (Nat.le_refl _) HO.out).mono ?_
      rintro e w3 ⟨rfl, b3⟩
      have hm3 := (hm2.below b3).more b3.size
      have B3 := B2.trans (b3.mono B2.size)
      clear hm2
      go_wp2_with fail
      go_at_call 35
      refine (sameRows_nil _ _ _ _ _).mono ?_
      rintro e w4 ⟨rfl, d4⟩
      have hm4 := (hm3.below (d4.below w3.heap.size)).more (d4.below w3.heap.size).size
      have B4 := B3.trans (d4.below w.heap.size)
      clear hm3
      go_wp2_with fail
      go_at_call 37
      refine (OrderOk_any hn1 HL.out hm4 (Nat.le_refl _)).mono ?_
      rintro e w5 ⟨rfl, b5⟩
      rw [HO.out]
      have B5 := B4.trans (b5.mono B4.size)
      clear hm4
      go_wp2_with fail
      go_at_call 25
      refine (alive_any _).mono ?_
      rintro e w6 ⟨rfl, b6⟩
      go_wp2_with fail
      go_ret
      exact ⟨rfl, B5.trans (b6.mono B5.size)⟩
    | true =>
      have hord := orderB_is ho
      have hpos := hord.pos
      have HS := Lib.hid hord.sq
      have HO := Lib.hid ho
      clear ho hord
      go_wp2_with fail
      go_at_call 29
      refine (TurnedOf_yes hn1 HL.out hm (Nat.le_refl _) HO.out).mono ?_
      rintro e w2 ⟨tb, tG, rfl, b2, ho2, _, _⟩
      have hm2 := (hm.below b2).more b2.size
      have B2 := b1.trans (b2.mono b1.size)
      clear hm
      go_wp2_with fail
      go_at_call 36
      refine (spec_TurnedOf_yes hn1 HL.out hm2 (Nat.le_refl _) HO.out).mono ?_
      rintro e w3 ⟨sa, sl, rfl, hs3, b3⟩
      have hm3 := (hm2.below b3).more b3.size
      have ho3 := ho2.step b3
      have B3 := B2.trans (b3.mono B2.size)
      clear hm2 ho2
      go_wp2_with fail
      go_at_call 35
      refine (sameRows_tr h12 ho3 hs3).mono ?_
      rintro e w4 ⟨rfl, d4⟩
      have q4 := d4.below w3.heap.size
      have hm4 := (hm3.below q4).more q4.size
      have ho4 := ho3.step q4
      have B4 := B3.trans (d4.below w.heap.size)
      clear hm3 ho3 hs3 q4
      go_wp2_with fail
      go_at_call 37
      refine (OrderOk_tr HO.out ho4).mono ?_
      rintro e w5 ⟨rfl, b5⟩
      have hm5 := (hm4.below b5).more b5.size
      have ho5 := ho4.step b5
      have B5 := B4.trans (b5.mono B4.size)
      clear hm4 ho4
      go_wp2_with fail
      go_at_call 29
      refine (TurnedOf_tr HO.out ho5).mono ?_
      rintro e w6 ⟨ub, uG, rfl, b6, ho6, _, _⟩
      have hm6 := (hm5.below b6).more b6.size
      have B6 := B5.trans (b6.mono B5.size)
      clear hm5 ho5
      go_wp2_with fail
      go_at_call 35
      refine (sameRows_tr2 h12 HS.out ho6 hm6).mono ?_
      rintro e w7 ⟨rfl, d7⟩
      go_wp2_with fail
      go_ret
      exact ⟨rfl, B6.trans (d7.below w.heap.size)⟩
end Go.Proofs.Ytcplljeglaolgaa
