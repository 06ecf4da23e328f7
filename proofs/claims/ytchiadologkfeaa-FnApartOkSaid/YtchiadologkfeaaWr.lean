/- The walks of the program's JoinOf and TurnedOf. -/
import Derived.Test.YtchiadologkfeaaWq
import Derived.KernelRfl
namespace Go.Proofs.Ytchiadologkfeaa
open Go.RowKit Go.Deep

theorem square_tr {m : Mx} (h : Square m) : Square (tr m) := ⟨fun _ _ => rfl, fun r hr c hc => h.bit c hc r hr⟩
theorem sq_turned {w w' : World} {B : Nat} {sa : Option Addr} {l : Lay} {m : Mx} {b : Nat} {G : Nat → Nat} (h : SqAt w B sa l m) (ho : OwnMat w' b G (tr m)) : SqAt w' w'.heap.size (some ⟨b, 0, none⟩) (ownLay b G (tr m)) (tr m) :=
  ⟨ho.mat, square_tr h.sq, h.hi, Nat.le_refl _⟩

theorem turned_ex {B : Nat} {sa : Option Addr} {l : Lay} {m : Mx} {w : World} (h : SqAt w B sa l m) :
    Calls Try.prog 53 #[.agg #[.slice sa m.n l.cap]] w fun e w' => ∃ (b : Nat) (G : Nat → Nat), e = .returned (.agg #[.slice (some ⟨b, 0, none⟩) m.n m.n]) ∧ Below w.heap.size w w' ∧ OwnMat w' b G (tr m) ∧ w.heap.size ≤ b ∧ (∀ r, w.heap.size ≤ G r) :=
  (turned_sq h).mono fun _ _ ⟨he, hb, ho⟩ => ⟨_, _, he, hb, ho, by omega, fun r => by show _ ≤ w.heap.size + 3 + r; omega⟩
theorem meet_tr {w : World} {B b : Nat} {G : Nat → Nat} {m : Mx} {x y : Nat} (h : SqAt w B (some ⟨b, 0, none⟩) (ownLay b G (tr m)) (tr m)) (hx : x < m.n) (hy : y < m.n) :
    Calls Try.prog 63 #[.agg #[.slice (some ⟨b, 0, none⟩) m.n m.n], .int .i64 x, .int .i64 y] w fun e w' => e = .returned (.tuple #[.int .i64 (meetI (tr m) x y), .bool (hasI (meetI (tr m) x y))]) ∧ Below w.heap.size w w' :=
  meet_sq (m := tr m) (l := ownLay b G (tr m)) h hx hy

set_option maxRecDepth 100000 in
set_option maxHeartbeats 1000000 in
theorem TurnedOf_no {B : Nat} {sa : Option Addr} {l : Lay} {m : Mx} {w : World} (hn : m.n ≤ 9223372036854775807) (hL : ∀ r, r < m.n → m.L r ≤ 9223372036854775807) (h : MatAt w B sa l m) (hB : B ≤ w.heap.size) (ho : orderB m = false) :
    Calls Try.prog 30 #[.slice sa m.n l.cap] w fun e w' => e = .returned (.slice none 0 0) ∧ Below w.heap.size w w' := by
  have HL := Lib.hid hL
  have HO := Lib.hid ho
  clear hL ho
  go_enter Try.func30, Try.ntmps30
  go_wp2_with fail
  go_at_call 52
  refine (orderWith_no hn HL.out h hB HO.out).mono ?_
  rintro e w1 ⟨rfl, hw1⟩
  go_wp2_with fail
  go_ret
  exact ⟨rfl, hw1.alloc hw1.size _⟩

/-- What TurnedOf hands back: new rows of the call's own. -/
def TurnRes (m : Mx) (w : World) (e : Ending) (w' : World) : Prop :=
  ∃ (b : Nat) (G : Nat → Nat), e = .returned (.slice (some ⟨b, 0, none⟩) m.n m.n) ∧ Below w.heap.size w w' ∧ OwnMat w' b G (tr m) ∧ w.heap.size ≤ b ∧ (∀ r, w.heap.size ≤ G r)

set_option maxRecDepth 100000 in
set_option maxHeartbeats 1000000 in
theorem TurnedOf_yes {B : Nat} {sa : Option Addr} {l : Lay} {m : Mx} {w : World} (hn : m.n ≤ 9223372036854775807) (hL : ∀ r, r < m.n → m.L r ≤ 9223372036854775807) (h : MatAt w B sa l m) (hB : B ≤ w.heap.size) (ho : orderB m = true) :
    Calls Try.prog 30 #[.slice sa m.n l.cap] w (TurnRes m w) := by
  have HL := Lib.hid hL
  have HO := Lib.hid ho
  clear hL ho
  go_enter Try.func30, Try.ntmps30
  go_wp2_with fail
  go_at_call 52
  refine (orderWith_ok (g := 0) (o := 0) (z := fun _ => 0) hn HL.out h hB (by omega) ⟨fun c hc => absurd hc (Nat.not_lt_zero _)⟩ HO.out).mono ?_
  rintro e w1 ⟨(⟨hg, rfl⟩ | ⟨hg, rfl⟩), hw1⟩
  · have hord := orderB_is HO.out
    have hS : SqAt w B sa l m := ⟨h, hord.sq, hord.top, hB⟩
    have hS1 := (hS.step hw1).alloc (.cells #[.slice sa m.n l.cap] 48)
    have b3 := hw1.alloc hw1.size (.cells #[.slice sa m.n l.cap] 48)
    have hs3 : w.heap.size ≤ w1.heap.size := hw1.size
    have hs4 := b3.size
    clear hg hord hS h
    go_wp2_with fail
    go_at_call 53
    refine (turned_ex hS1).mono ?_
    rintro e w2 ⟨tb, tG, rfl, hw2, hO2, hb2, hG2⟩
    have HX : Hid (TurnRes m w (.returned (.slice (some ⟨tb, 0, none⟩) m.n m.n)) w2) := ⟨tb, tG, rfl, b3.trans (hw2.mono b3.size), hO2, by omega, fun r => Nat.le_trans hs4 (hG2 r)⟩
    clear hO2 hw2 hS1 hb2 hG2
    have hfld : ∀ (a : Option Addr) (n c : Nat) (w : World), (Instr.field 48 (.agg #[.slice a n c]) 0).run Try.prog w = .ok (.slice a n c) w := fun _ _ _ _ => by kernel_rfl
    go_wp2_with fail
    go_ret
    exact HX.out
  · rw [good_nil] at hg
    cases hg
end Go.Proofs.Ytchiadologkfeaa
