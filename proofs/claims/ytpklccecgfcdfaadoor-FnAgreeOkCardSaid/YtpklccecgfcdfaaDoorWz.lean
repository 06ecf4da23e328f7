/- TurnedOf's rows are blocks of their own, each another one; the laws' marks on them. -/
import Derived.Test.YtpklccecgfcdfaaDoorWv
namespace Go.Proofs.YtpklccecgfcdfaaDoor
open Go.RowKit Go.Deep

theorem turned_own {B : Nat} {sa : Option Addr} {l : Lay} {m : Mx} {w : World} (h : SqAt w B sa l m) :
    Calls Tryd.prog 103 #[.agg #[.slice sa m.n l.cap]] w fun e w' => ∃ (b : Nat) (G : Nat → Nat), e = .returned (.agg #[.slice (some ⟨b, 0, none⟩) m.n m.n]) ∧ Below w.heap.size w w' ∧ OwnMat w' b G (tr m) ∧ w.heap.size ≤ b ∧ (∀ r, w.heap.size ≤ G r) ∧ (∀ r s, G r = G s → r = s) ∧ (∀ r, G r ≠ b) :=
  (turned_sq h).mono fun _ _ ⟨he, hb, ho⟩ => ⟨_, _, he, hb, ho, by omega, fun r => by show _ ≤ w.heap.size + 3 + r; omega, fun r s e => by have e' : w.heap.size + 3 + r = w.heap.size + 3 + s := e; omega, fun r e => by have e' : w.heap.size + 3 + r = w.heap.size + 2 := e; omega⟩
/-- What TurnedOf hands back: new rows of the call's own. -/
def TurnOwn (m : Mx) (w : World) (e : Ending) (w' : World) : Prop :=
  ∃ (b : Nat) (G : Nat → Nat), e = .returned (.slice (some ⟨b, 0, none⟩) m.n m.n) ∧ Below w.heap.size w w' ∧ OwnMat w' b G (tr m) ∧ w.heap.size ≤ b ∧ (∀ r, w.heap.size ≤ G r) ∧ (∀ r s, G r = G s → r = s) ∧ (∀ r, G r ≠ b)

theorem eq_turned {w : World} {b : Nat} {G : Nat → Nat} {a : Option Addr} {l' : Lay} {m : Mx} (hn : m.n ≤ 12) (h : OwnMat w b G (tr m)) (h' : MatAt w w.heap.size a l' (tr m)) :
    Calls Tryd.prog 85 #[.slice (some ⟨b, 0, none⟩) m.n m.n, .slice a m.n l'.cap] w fun e w' => e = .returned (.bool true) ∧ Drew w w' :=
  eqIntSS_same w.heap.size _ _ (ownLay b G (tr m)) l' (tr m) w (by show m.n ≤ _; omega) (fun r _ => by show m.n ≤ _; omega) h.mat h'
theorem mark_turned {w : World} {b : Nat} {G : Nat → Nat} {m : Mx} (hn : m.n ≤ 12) (h : OwnMat w b G (tr m)) (h1 : ∀ r s, G r = G s → r = s) (h2 : ∀ r, G r ≠ b) :
    Calls Tryd.prog 86 #[.slice (some ⟨b, 0, none⟩) m.n m.n, .int .i64 1] w fun e w' => e = .returned (.int .i64 ((1 + offs (tr m).L (tr m).n : Nat) : Int)) ∧ OnlyIn (fun k => ∃ r, k = G r) w w' ∧ OwnMat w' b G (markOf (tr m)) :=
  (markIntSS_own (m := tr m) (by show m.n ≤ _; omega) (fun r _ => by show m.n ≤ _; omega) h (fun r s _ _ e => h1 r s e) (fun r _ => h2 r)).mono fun _ _ ⟨he, ho, hm⟩ => ⟨he, ho.mono fun k ⟨r, _, e⟩ => ⟨r, e⟩, hm⟩
def noRows : Mx := ⟨0, fun _ => 0, fun _ _ => 0⟩
theorem no_rows (w : World) (a : Option Addr) (l : Lay) (B : Nat) : MatAt w B a l noRows := ⟨fun _ hr => absurd hr (Nat.not_lt_zero _), fun _ hr => absurd hr (Nat.not_lt_zero _)⟩
theorem eq_none {w : World} {a a' : Option Addr} {c c' : Nat} : Calls Tryd.prog 85 #[.slice a 0 c, .slice a' 0 c'] w fun e w' => e = .returned (.bool true) ∧ Drew w w' :=
  eqIntSS_same 0 a a' ⟨0, 0, c, fun _ => none, fun _ => 0, fun _ => 0, fun _ => 0⟩ ⟨0, 0, c', fun _ => none, fun _ => 0, fun _ => 0, fun _ => 0⟩ noRows w (Nat.zero_le _) (fun _ hr => absurd hr (Nat.not_lt_zero _)) (no_rows _ _ _ _) (no_rows _ _ _ _)
set_option maxHeartbeats 400000 in
theorem mark_none {w : World} : Calls Tryd.prog 86 #[.slice none 0 0, .int .i64 1] w fun e w' => e = .returned (.int .i64 1) ∧ w = w' := by
  go_enter Tryd.func86, Tryd.ntmps86
  go_wp2
  go_loop [1, 5] (fun t i => t = .int .i64 1 ∧ i = .int .i64 0) (fun _ _ => 0)
  case atStart => exact ⟨rfl, rfl⟩
  case round =>
    obtain ⟨rfl, rfl⟩ := hrel
    go_wp2
    go_ret
    exact ⟨rfl, rfl⟩
end Go.Proofs.YtpklccecgfcdfaaDoor
