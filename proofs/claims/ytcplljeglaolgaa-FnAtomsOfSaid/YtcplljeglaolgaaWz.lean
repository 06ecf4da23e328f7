/- TurnedOf's rows are blocks of their own, each another one; the laws' marks on them. -/
import Derived.Test.YtcplljeglaolgaaWy
namespace Go.Proofs.Ytcplljeglaolgaa
open Go.RowKit Go.Deep

theorem turned_own {B : Nat} {sa : Option Addr} {l : Lay} {m : Mx} {w : World} (h : SqAt w B sa l m) :
    Calls Try.prog 75 #[.agg #[.slice sa m.n l.cap]] w fun e w' => ∃ (b : Nat) (G : Nat → Nat), e = .returned (.agg #[.slice (some ⟨b, 0, none⟩) m.n m.n]) ∧ Below w.heap.size w w' ∧ OwnMat w' b G (tr m) ∧ w.heap.size ≤ b ∧ (∀ r, w.heap.size ≤ G r) ∧ (∀ r s, G r = G s → r = s) ∧ (∀ r, G r ≠ b) :=
  (turned_sq h).mono fun _ _ ⟨he, hb, ho⟩ => ⟨_, _, he, hb, ho, by omega, fun r => by show _ ≤ w.heap.size + 3 + r; omega, fun r s e => by have e' : w.heap.size + 3 + r = w.heap.size + 3 + s := e; omega, fun r e => by have e' : w.heap.size + 3 + r = w.heap.size + 2 := e; omega⟩
/-- What TurnedOf hands back: new rows of the call's own. -/
def TurnOwn (m : Mx) (w : World) (e : Ending) (w' : World) : Prop :=
  ∃ (b : Nat) (G : Nat → Nat), e = .returned (.slice (some ⟨b, 0, none⟩) m.n m.n) ∧ Below w.heap.size w w' ∧ OwnMat w' b G (tr m) ∧ w.heap.size ≤ b ∧ (∀ r, w.heap.size ≤ G r) ∧ (∀ r s, G r = G s → r = s) ∧ (∀ r, G r ≠ b)

set_option maxRecDepth 100000 in
set_option maxHeartbeats 1000000 in
theorem TurnedOf_own {B : Nat} {sa : Option Addr} {l : Lay} {m : Mx} {w : World} (hn : m.n ≤ 9223372036854775807) (hL : ∀ r, r < m.n → m.L r ≤ 9223372036854775807) (h : MatAt w B sa l m) (hB : B ≤ w.heap.size) (ho : orderB m = true) :
    Calls Try.prog 29 #[.slice sa m.n l.cap] w (TurnOwn m w) := by
  have HL := Lib.hid hL
  have HO := Lib.hid ho
  clear hL ho
  go_enter Try.func29, Try.ntmps29
  go_wp2_with fail
  go_at_call 70
  refine (orderWith_ok (g := 0) (o := 0) (z := fun _ => 0) hn HL.out h hB (by omega) ⟨fun c hc => absurd hc (Nat.not_lt_zero _)⟩ HO.out).mono ?_
  rintro e w1 ⟨(⟨hg, rfl⟩ | ⟨hg, rfl⟩), hw1⟩
  · have hord := orderB_is HO.out
    have hS : SqAt w B sa l m := ⟨h, hord.sq, hord.top, hB⟩
    have hS1 := (hS.step hw1).alloc (.cells #[.slice sa m.n l.cap] 62)
    have b3 := hw1.alloc hw1.size (.cells #[.slice sa m.n l.cap] 62)
    have hs3 : w.heap.size ≤ w1.heap.size := hw1.size
    have hs4 := b3.size
    clear hg hord hS h
    go_wp2_with fail
    go_at_call 75
    refine (turned_own hS1).mono ?_
    rintro e w2 ⟨tb, tG, rfl, hw2, hO2, hb2, hG2, hG3, hG4⟩
    have HX : Hid (TurnOwn m w (.returned (.slice (some ⟨tb, 0, none⟩) m.n m.n)) w2) := ⟨tb, tG, rfl, b3.trans (hw2.mono b3.size), hO2, by omega, fun r => Nat.le_trans hs4 (hG2 r), hG3, hG4⟩
    clear hO2 hw2 hS1 hb2 hG2 hG3 hG4
    have hfld : ∀ (a : Option Addr) (n c : Nat) (w : World), (Instr.field 62 (.agg #[.slice a n c]) 0).run Try.prog w = .ok (.slice a n c) w := fun _ _ _ _ => by kernel_rfl
    go_wp2_with fail
    go_ret
    exact HX.out
  · rw [good_nil] at hg
    cases hg

theorem eq_turned {w : World} {b : Nat} {G : Nat → Nat} {a : Option Addr} {l' : Lay} {m : Mx} (hn : m.n ≤ 12) (h : OwnMat w b G (tr m)) (h' : MatAt w w.heap.size a l' (tr m)) :
    Calls Try.prog 97 #[.slice (some ⟨b, 0, none⟩) m.n m.n, .slice a m.n l'.cap] w fun e w' => e = .returned (.bool true) ∧ Drew w w' :=
  eqIntSS_same w.heap.size _ _ (ownLay b G (tr m)) l' (tr m) w (by show m.n ≤ _; omega) (fun r _ => by show m.n ≤ _; omega) h.mat h'
def noRows : Mx := ⟨0, fun _ => 0, fun _ _ => 0⟩
theorem no_rows (w : World) (a : Option Addr) (l : Lay) (B : Nat) : MatAt w B a l noRows := ⟨fun _ hr => absurd hr (Nat.not_lt_zero _), fun _ hr => absurd hr (Nat.not_lt_zero _)⟩
theorem eq_none {w : World} {a a' : Option Addr} {c c' : Nat} : Calls Try.prog 97 #[.slice a 0 c, .slice a' 0 c'] w fun e w' => e = .returned (.bool true) ∧ Drew w w' :=
  eqIntSS_same 0 a a' ⟨0, 0, c, fun _ => none, fun _ => 0, fun _ => 0, fun _ => 0⟩ ⟨0, 0, c', fun _ => none, fun _ => 0, fun _ => 0, fun _ => 0⟩ noRows w (Nat.zero_le _) (fun _ hr => absurd hr (Nat.not_lt_zero _)) (no_rows _ _ _ _) (no_rows _ _ _ _)
end Go.Proofs.Ytcplljeglaolgaa
