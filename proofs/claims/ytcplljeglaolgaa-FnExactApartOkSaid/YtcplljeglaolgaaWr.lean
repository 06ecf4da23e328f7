/- The walks of the program's JoinOf and TurnedOf. -/
import Derived.Test.YtcplljeglaolgaaWq
import Derived.KernelRfl
namespace Go.Proofs.Ytcplljeglaolgaa
open Go.RowKit Go.Deep

theorem square_tr {m : Mx} (h : Square m) : Square (tr m) := ⟨fun _ _ => rfl, fun r hr c hc => h.bit c hc r hr⟩
theorem sq_turned {w w' : World} {B : Nat} {sa : Option Addr} {l : Lay} {m : Mx} {b : Nat} {G : Nat → Nat} (h : SqAt w B sa l m) (ho : OwnMat w' b G (tr m)) : SqAt w' w'.heap.size (some ⟨b, 0, none⟩) (ownLay b G (tr m)) (tr m) :=
  ⟨ho.mat, square_tr h.sq, h.hi, Nat.le_refl _⟩

theorem turned_ex {B : Nat} {sa : Option Addr} {l : Lay} {m : Mx} {w : World} (h : SqAt w B sa l m) :
    Calls Try.prog 75 #[.agg #[.slice sa m.n l.cap]] w fun e w' => ∃ (b : Nat) (G : Nat → Nat), e = .returned (.agg #[.slice (some ⟨b, 0, none⟩) m.n m.n]) ∧ Below w.heap.size w w' ∧ OwnMat w' b G (tr m) ∧ w.heap.size ≤ b ∧ (∀ r, w.heap.size ≤ G r) :=
  (turned_sq h).mono fun _ _ ⟨he, hb, ho⟩ => ⟨_, _, he, hb, ho, by omega, fun r => by show _ ≤ w.heap.size + 3 + r; omega⟩
theorem meet_tr {w : World} {B b : Nat} {G : Nat → Nat} {m : Mx} {x y : Nat} (h : SqAt w B (some ⟨b, 0, none⟩) (ownLay b G (tr m)) (tr m)) (hx : x < m.n) (hy : y < m.n) :
    Calls Try.prog 71 #[.agg #[.slice (some ⟨b, 0, none⟩) m.n m.n], .int .i64 x, .int .i64 y] w fun e w' => e = .returned (.tuple #[.int .i64 (meetI (tr m) x y), .bool (hasI (meetI (tr m) x y))]) ∧ Below w.heap.size w w' :=
  meet_sq (m := tr m) (l := ownLay b G (tr m)) h hx hy

set_option maxRecDepth 100000 in
set_option maxHeartbeats 1000000 in
theorem JoinOf_any {B : Nat} {sa : Option Addr} {l : Lay} {m : Mx} {a b : Int} {w : World} (hn : m.n ≤ 9223372036854775807) (hL : ∀ r, r < m.n → m.L r ≤ 9223372036854775807) (h : MatAt w B sa l m) (hB : B ≤ w.heap.size) :
    Calls Try.prog 27 #[.slice sa m.n l.cap, .int .i64 a, .int .i64 b] w fun e w' => e = .returned (.tuple #[.int .i64 (joinV m a b), .bool (hasI (joinV m a b))]) ∧ Below w.heap.size w w' := by
  have h1 := h.alloc hB (.cells #[.int .i64 a, .int .i64 b] 3)
  have ht := two_at w a b
  have b1 : Below w.heap.size w (w.alloc (.cells #[.int .i64 a, .int .i64 b] 3)) := (Below.refl _ _).alloc (Nat.le_refl _) _
  have HL := Lib.hid hL
  clear hL
  cases ho : orderB m with
  | false =>
    have HR : Hid (-1 = joinV m a b) := (joinV_no fun h => by rw [ho] at h; cases h.1).symm
    have HO := Lib.hid ho
    clear ho
    go_enter Try.func27, Try.ntmps27
    go_wp2_with fail
    go_at_call 70
    refine (orderWith_no hn HL.out h1 (by simp; omega) HO.out).mono ?_
    rintro e w1 ⟨rfl, hw1⟩
    have hs := hw1.size
    have b2 : Below w.heap.size w w1 := b1.trans (hw1.mono b1.size)
    go_wp2_with fail
    go_ret2
    exact ⟨ret_pair HR.out (by rw [← HR.out]; rfl), b2.alloc b2.size _⟩
  | true =>
    have HO := Lib.hid ho
    clear ho
    go_enter Try.func27, Try.ntmps27
    go_wp2_with fail
    go_at_call 70
    refine (orderWith_ok hn HL.out (h1.more (B' := w.heap.size + 1) (by omega)) (by simp) (by omega) ht HO.out).mono ?_
    rintro e w1 ⟨(⟨hg, rfl⟩ | ⟨hg, rfl⟩), hw1⟩
    · have hg' := good_two hg
      have hord := orderB_is HO.out
      have b2 : Below w.heap.size w w1 := b1.trans (hw1.mono b1.size)
      obtain ⟨a, rfl⟩ := Int.eq_ofNat_of_zero_le hg'.1
      obtain ⟨b, rfl⟩ := Int.eq_ofNat_of_zero_le hg'.2.2.1
      have ha : a < m.n := by omega
      have hb : b < m.n := by omega
      have HR : Hid (meetI (tr m) a b = joinV m a b) := (joinV_yes HO.out ha hb).symm
      have hS : SqAt w B sa l m := ⟨h, hord.sq, hord.top, hB⟩
      have hS1 := (hS.step b2).alloc (.cells #[.slice sa m.n l.cap] 62)
      have b3 := b2.alloc b2.size (.cells #[.slice sa m.n l.cap] 62)
      clear hg hg' hord hS h h1 ht
      go_wp2_with fail
      go_at_call 75
      refine (turned_ex hS1).mono ?_
      rintro e w2 ⟨tb, tG, rfl, hw2, hO2, _, _⟩
      have hS2 := sq_turned hS1 hO2
      have b4 := b3.trans (hw2.mono b3.size)
      clear hO2 hS1
      go_wp2_with fail
      go_at_call 71
      refine (meet_tr hS2 ha hb).mono ?_
      rintro e w3 ⟨rfl, hw3⟩
      go_wp2_with fail
      go_ret2
      exact ⟨ret_pair HR.out (by rw [← HR.out]), b4.trans (hw3.mono b4.size)⟩
    · have HR : Hid (-1 = joinV m a b) := (joinV_no fun h => bad_two hg h.2).symm
      have b2 : Below w.heap.size w w1 := b1.trans (hw1.mono b1.size)
      clear hg
      go_wp2_with fail
      go_ret2
      exact ⟨ret_pair HR.out (by rw [← HR.out]; rfl), b2.alloc b2.size _⟩

set_option maxRecDepth 100000 in
set_option maxHeartbeats 1000000 in
theorem TurnedOf_no {B : Nat} {sa : Option Addr} {l : Lay} {m : Mx} {w : World} (hn : m.n ≤ 9223372036854775807) (hL : ∀ r, r < m.n → m.L r ≤ 9223372036854775807) (h : MatAt w B sa l m) (hB : B ≤ w.heap.size) (ho : orderB m = false) :
    Calls Try.prog 29 #[.slice sa m.n l.cap] w fun e w' => e = .returned (.slice none 0 0) ∧ Below w.heap.size w w' := by
  have HL := Lib.hid hL
  have HO := Lib.hid ho
  clear hL ho
  go_enter Try.func29, Try.ntmps29
  go_wp2_with fail
  go_at_call 70
  refine (orderWith_no hn HL.out h hB HO.out).mono ?_
  rintro e w1 ⟨rfl, hw1⟩
  go_wp2_with fail
  go_ret
  exact ⟨rfl, hw1.alloc hw1.size _⟩

/-- What TurnedOf hands back: new rows of the call's own. -/
def TurnRes (m : Mx) (w : World) (e : Ending) (w' : World) : Prop :=
  ∃ (b : Nat) (G : Nat → Nat), e = .returned (.slice (some ⟨b, 0, none⟩) m.n m.n) ∧ Below w.heap.size w w' ∧ OwnMat w' b G (tr m) ∧ w.heap.size ≤ b ∧ (∀ r, w.heap.size ≤ G r)

set_option maxRecDepth 100000 in
set_option maxHeartbeats 1000000 in
theorem TurnedOf_yes {B : Nat} {sa : Option Addr} {l : Lay} {m : Mx} {w : World} (hn : m.n ≤ 9223372036854775807) (hL : ∀ r, r < m.n → m.L r ≤ 9223372036854775807) (h : MatAt w B sa l m) (hB : B ≤ w.heap.size) (ho : orderB m = true) :
    Calls Try.prog 29 #[.slice sa m.n l.cap] w (TurnRes m w) := by
  have HL := Lib.hid hL
  have HO := Lib.hid ho
  clear hL ho
  go_enter Try.func29, Try.ntmps29
  go_wp2_with fail
  go_at_call 70
  refine (orderWith_ok (g := 0) (o := 0) (z := fun _ => 0) hn HL.out h hB (by omega) ⟨fun c hc => absurd hc (Nat.not_lt_zero _)⟩ HO.out).mono ?_
  rintro e w1 ⟨(⟨hg, rfl⟩ | ⟨hg, rfl⟩), hw1⟩
  · have hord := orderB_is HO.out
    have hS : SqAt w B sa l m := ⟨h, hord.sq, hord.top, hB⟩
    have hS1 := (hS.step hw1).alloc (.cells #[.slice sa m.n l.cap] 62)
    have b3 := hw1.alloc hw1.size (.cells #[.slice sa m.n l.cap] 62)
    have hs3 : w.heap.size ≤ w1.heap.size := hw1.size
    have hs4 := b3.size
    clear hg hord hS h
    go_wp2_with fail
    go_at_call 75
    refine (turned_ex hS1).mono ?_
    rintro e w2 ⟨tb, tG, rfl, hw2, hO2, hb2, hG2⟩
    have HX : Hid (TurnRes m w (.returned (.slice (some ⟨tb, 0, none⟩) m.n m.n)) w2) := ⟨tb, tG, rfl, b3.trans (hw2.mono b3.size), hO2, by omega, fun r => Nat.le_trans hs4 (hG2 r)⟩
    clear hO2 hw2 hS1 hb2 hG2
    have hfld : ∀ (a : Option Addr) (n c : Nat) (w : World), (Instr.field 62 (.agg #[.slice a n c]) 0).run Try.prog w = .ok (.slice a n c) w := fun _ _ _ _ => by kernel_rfl
    go_wp2_with fail
    go_ret
    exact HX.out
  · rw [good_nil] at hg
    cases hg
end Go.Proofs.Ytcplljeglaolgaa
