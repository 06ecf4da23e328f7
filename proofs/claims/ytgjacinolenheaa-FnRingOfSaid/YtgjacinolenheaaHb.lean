/- Logics that a law marks: as they lie in memory, each block apart; the walks of marking one, and of finding the marks. -/
import Derived.Test.YtgjacinolenheaaHa
import Derived.Test.YtgjacinolenheaaGa
namespace Go.Proofs.Ytgjacinolenheaa
open Go.RowKit Go.Deep

structure LogW (w : World) (B base : Nat) (ua : Option Addr) (l : Lay) (m : Mx) (na : Option Addr) (g o k : Nat) (z : Nat → Int) : Prop where
  mat : MatW w B ua l m
  row : RowW w B na g o k z
  ne : ∀ r, r < m.n → 0 < m.L r → 0 < k → l.G r ≠ g
  nb : 0 < m.n → 0 < k → l.b ≠ g
  bb : 0 < m.n → base ≤ l.b
  bG : ∀ r, r < m.n → 0 < m.L r → base ≤ l.G r
  bg : 0 < k → base ≤ g
  hn : m.n ≤ 1048576
  hL : ∀ r, r < m.n → m.L r ≤ 1048576
  hk : k ≤ 1048576
  hB : B ≤ w.heap.size
section
variable {w w' : World} {B base : Nat} {ua : Option Addr} {l : Lay} {m : Mx} {na : Option Addr} {g o k : Nat} {z : Nat → Int}
theorem LogW.logAt (h : LogW w B base ua l m na g o k z) : LogAt w B ua l m na g o k z :=
  ⟨h.mat.mat, h.row.row, by have := h.hn; omega, fun r hr => by have := h.hL r hr; omega, by have := h.hk; omega, h.hB⟩
theorem MatW.chg {S : Nat → Prop} (h : MatW w B ua l m) (hc : Chg S w w') (hB : B ≤ w.heap.size) (hb : 0 < m.n → ¬ S l.b) (hG : ∀ r, r < m.n → 0 < m.L r → ¬ S (l.G r)) : MatW w' B ua l m :=
  ⟨⟨fun r hr => by obtain ⟨h1, h2, h3⟩ := h.mat.top r hr; exact ⟨h1, h2, (World.cell?_of_block (w := w) (hc.block l.b (by omega) (hb (by omega)))).trans h3⟩,
    fun r hr c hc' => by obtain ⟨h1, h2, h3⟩ := h.mat.row r hr c hc'; exact ⟨h1, h2, (World.cell?_of_block (w := w) (hc.block (l.G r) (by omega) (hG r hr (by omega)))).trans h3⟩⟩,
   fun r hr c hc' => by
    obtain ⟨_, h2, _⟩ := h.mat.row r hr c hc'
    have hlt : l.G r < w.heap.size := by omega
    exact (World.frozen?_of_block (w := w) (a := ⟨l.G r, l.O r + c, none⟩) (hc.block (l.G r) hlt (hG r hr (by omega)))).trans (h.fro r hr c hc'), h.sep, h.top⟩
theorem RowW.chg {S : Nat → Prop} {a : Option Addr} {n : Nat} (h : RowW w B a g o n z) (hc : Chg S w w') (hB : B ≤ w.heap.size) (hg : 0 < n → ¬ S g) : RowW w' B a g o n z :=
  ⟨⟨fun c hc' => by obtain ⟨h1, h2, h3⟩ := h.row.row c hc'; exact ⟨h1, h2, (World.cell?_of_block (w := w) (hc.block g (by omega) (hg (by omega)))).trans h3⟩⟩,
   fun c hc' => by
    obtain ⟨_, h2, _⟩ := h.row.row c hc'
    exact (World.frozen?_of_block (w := w) (a := ⟨g, o + c, none⟩) (hc.block g (by omega) (hg (by omega)))).trans (h.fro c hc')⟩
theorem LogW.chg {S : Nat → Prop} (h : LogW w B base ua l m na g o k z) (hc : Chg S w w') (hS : ∀ j, S j → j < base ∨ B ≤ j) : LogW w' B base ua l m na g o k z := by
  have lt1 : 0 < m.n → l.b < B := fun h0 => (h.mat.mat.top 0 h0).2.1
  have lt2 : ∀ r, r < m.n → 0 < m.L r → l.G r < B := fun r hr h0 => (h.mat.mat.row r hr 0 h0).2.1
  have lt3 : 0 < k → g < B := fun h0 => (h.row.row.row 0 h0).2.1
  exact ⟨h.mat.chg hc h.hB (fun h0 e => by have := hS _ e; have := lt1 h0; have := h.bb h0; omega) (fun r hr h0 e => by have := hS _ e; have := lt2 r hr h0; have := h.bG r hr h0; omega),
    h.row.chg hc h.hB (fun h0 e => by have := hS _ e; have := lt3 h0; have := h.bg h0; omega), h.ne, h.nb, h.bb, h.bG, h.bg, h.hn, h.hL, h.hk, Nat.le_trans h.hB hc.size⟩
theorem LogW.below {B' : Nat} (h : LogW w B base ua l m na g o k z) (hb : Below B' w w') (hB : B ≤ B') : LogW w' B base ua l m na g o k z :=
  h.chg (Chg.of_below (S := fun j => B ≤ j) hb fun j _ hj => by omega) fun j hj => .inr hj
theorem LogW.more {B' : Nat} (h : LogW w B base ua l m na g o k z) (hB : B ≤ B') (hw : B' ≤ w.heap.size) : LogW w B' base ua l m na g o k z :=
  ⟨⟨h.mat.mat.more hB, h.mat.fro, h.mat.sep, h.mat.top⟩, ⟨⟨fun c hc => by obtain ⟨h1, h2, h3⟩ := h.row.row.row c hc; exact ⟨h1, by omega, h3⟩⟩, h.row.fro⟩, h.ne, h.nb, h.bb, h.bG, h.bg, h.hn, h.hL, h.hk, hw⟩
theorem LogW.rebase {b' : Nat} (h : LogW w B base ua l m na g o k z) (hb : b' ≤ base) : LogW w B b' ua l m na g o k z :=
  ⟨h.mat, h.row, h.ne, h.nb, fun h0 => Nat.le_trans hb (h.bb h0), fun r hr h0 => Nat.le_trans hb (h.bG r hr h0), fun h0 => Nat.le_trans hb (h.bg h0), h.hn, h.hL, h.hk, h.hB⟩
end

/-- Where the marks of a logic go on behind its rows. -/
def markAt (m : Mx) (k0 : Nat) : Nat := k0 + offs m.L m.n
theorem markAt_le {m : Mx} {k0 : Nat} (hn : m.n ≤ 1048576) (hL : ∀ r, r < m.n → m.L r ≤ 1048576) (h0 : k0 ≤ 2199023255552) : markAt m k0 ≤ 3298534883328 := by
  have := offs_le hL m.n (Nat.le_refl _)
  unfold markAt
  omega

set_option maxRecDepth 100000 in
set_option maxHeartbeats 1000000 in
theorem markLogic_w {w : World} {B base : Nat} {ua : Option Addr} {l : Lay} {m : Mx} {na : Option Addr} {g k nc k0 : Nat} {z : Nat → Int} (h : LogW w B base ua l m na g 0 k z) (h0 : k0 ≤ 2199023255552) :
    Calls Try.prog 39 #[.agg #[.slice ua m.n l.cap, .slice na k nc], .int .i64 (k0 : Int)] w fun e w' => e = .returned (.int .i64 ((markAt m k0 + k : Nat) : Int)) ∧ Chg (fun j => base ≤ j ∧ j < B) w w' ∧ LogW w' B base ua l (marksOf k0 m) na g 0 k (fun i => ((markAt m k0 : Nat) : Int) + i) := by
  have hX := BoxN.start w #[.slice ua m.n l.cap, .slice na k nc] 27
  have h1 := Lib.hid (h.below hX.below h.hB)
  have hma := markAt_le h.hn h.hL h0
  have lt2 := Lib.hid (fun r (hr : r < m.n) (hl : 0 < m.L r) => (h.mat.mat.row r hr 0 hl).2.1)
  have lt3 := Lib.hid (fun (hl : 0 < k) => (h.row.row.row 0 hl).2.1)
  have q0 := hX.cell 0 rfl
  have q1 := hX.cell 1 rfl
  have hBw := h.hB
  have hc0 := Chg.alloc (fun j => base ≤ j ∧ j < B) w (.cells #[.slice ua m.n l.cap, .slice na k nc] 27)
  clear h
  go_enter Try.func39, Try.ntmps39
  go_wp2_with fail
  go_at_call 72
  refine (markIntSS_w h1.out.hn h1.out.hL h0 h1.out.mat).mono ?_
  rintro e w2 ⟨rfl, hO, hM⟩
  have hO' := hO.mono (T := fun j => base ≤ j ∧ j < B) fun j ⟨r, hr, hl, e⟩ => ⟨by rw [e]; exact h1.out.bG r hr hl, by rw [e]; exact lt2.out r hr hl⟩
  have q2 := (World.cell?_of_block (w := w.alloc (.cells #[.slice ua m.n l.cap, .slice na k nc] 27)) (a := ⟨w.heap.size, 1, none⟩) (hO'.block w.heap.size (by omega))).trans q1
  have hR := h1.out.row.only hO fun hk ⟨r, hr, hl, e⟩ => h1.out.ne r hr hl hk e.symm
  have hR' := Lib.hid hR
  have HO := Lib.hid hO'
  have HM := Lib.hid hM
  clear hO hO' hM hR q0 q1
  go_wp2_with fail
  go_at_call 45
  refine (markIntS_w (k0 := ((k0 + offs m.L m.n : Nat) : Int)) h1.out.hk (by omega) (by unfold markAt at hma; omega) hR'.out).mono ?_
  rintro e w3 ⟨rfl, hO3, hR3⟩
  have hO3' := hO3.mono (T := fun j => base ≤ j ∧ j < B) fun j ⟨hl, e⟩ => ⟨by rw [e]; exact h1.out.bg hl, by rw [e]; exact lt3.out hl⟩
  have hM3 := HM.out.only hO3 (fun hn ⟨hk, e⟩ => h1.out.nb hn hk e) (fun r hr hl ⟨hk, e⟩ => h1.out.ne r hr hl hk e)
  have hsz : w.heap.size ≤ w3.heap.size := by have := hO3.size; have := HO.out.size; simp at this; omega
  have hall : Hid (LogW w3 B base ua l (marksOf k0 m) na g 0 k (fun i => ((markAt m k0 : Nat) : Int) + i)) := ⟨hM3, hR3, h1.out.ne, h1.out.nb, h1.out.bb, h1.out.bG, h1.out.bg, h1.out.hn, h1.out.hL, h1.out.hk, by omega⟩
  have hch := (hc0.trans (Chg.of_only HO.out)).trans (Chg.of_only hO3')
  clear hO3 hO3' hM3 hR3
  go_wp2_with fail
  go_ret
  exact ⟨ret_int (by unfold markAt; omega), hch, hall.out⟩

set_option maxRecDepth 100000 in
set_option maxHeartbeats 1000000 in
theorem heldLogic_w {w : World} {B : Nat} {ua : Option Addr} {l : Lay} {m : Mx} {na : Option Addr} {g k nc k0 : Nat} (hm : MatAt w B ua l (marksOf k0 m)) (hr : RowAt w B na g 0 k (fun i => ((markAt m k0 : Nat) : Int) + i)) (hB : B ≤ w.heap.size) (hn : m.n ≤ 1048576) (hL : ∀ r, r < m.n → m.L r ≤ 1048576) (hk : k ≤ 1048576) (h0 : k0 ≤ 2199023255552) :
    Calls Try.prog 40 #[.agg #[.slice ua m.n l.cap, .slice na k nc], .int .i64 (k0 : Int)] w fun e w' => e = .returned (.int .i64 ((markAt m k0 + k : Nat) : Int)) ∧ Below w.heap.size w w' := by
  have hX := BoxN.start w #[.slice ua m.n l.cap, .slice na k nc] 27
  have hm1 := Lib.hid (hm.below (hX.below.mono hB))
  have hr1 := Lib.hid (hr.below (hX.below.mono hB))
  have hma := markAt_le hn hL h0
  have q0 := hX.cell 0 rfl
  have q1 := hX.cell 1 rfl
  have HL := Lib.hid hL
  clear hm hr hL
  go_enter Try.func40, Try.ntmps40
  go_wp2_with fail
  go_at_call 73
  refine (heldIntSS_w hn HL.out h0 hm1.out).mono ?_
  rintro e w2 ⟨rfl, rfl⟩
  go_wp2_with fail
  go_at_call 74
  refine (heldIntS_any (k0 := ((k0 + offs m.L m.n : Nat) : Int)) hk (by omega) (by unfold markAt at hma; omega) hr1.out).mono ?_
  rintro e w3 ⟨rfl, rfl⟩
  go_wp2_with fail
  go_ret
  exact ⟨ret_int (by unfold markAt; omega), hX.below⟩

/-- A logic that comes back, or none: rows, opposites and all. -/
def ResL (w : World) (n : Nat) (Z : Nat → Nat → Int) (y : Nat → Nat) (e : Ending) (ok : Bool) (w' : World) : Prop :=
  ∃ (ua : Option Addr) (l : Lay) (na : Option Addr) (g nc : Nat), e = .returned (.tuple #[.agg #[.slice ua n l.cap, .slice na n nc], .bool ok]) ∧ LogW w' w'.heap.size w.heap.size ua l ⟨n, fun _ => n, Z⟩ na g 0 n (fun c => (y c : Int)) ∧ Below w.heap.size w w'
def noLay : Lay := ⟨0, 0, 0, fun _ => none, fun _ => 0, fun _ => 0, fun _ => 0⟩
theorem LogW.none (w : World) (Z : Nat → Nat → Int) (z : Nat → Int) (base : Nat) : LogW w w.heap.size base Option.none noLay ⟨0, fun _ => 0, Z⟩ Option.none 0 0 0 z :=
  ⟨⟨⟨fun _ hr => absurd hr (Nat.not_lt_zero _), fun _ hr => absurd hr (Nat.not_lt_zero _)⟩, fun _ hr => absurd hr (Nat.not_lt_zero _), fun _ _ hr => absurd hr (Nat.not_lt_zero _), fun _ hr => absurd hr (Nat.not_lt_zero _)⟩, ⟨⟨fun _ hr => absurd hr (Nat.not_lt_zero _)⟩, fun _ hr => absurd hr (Nat.not_lt_zero _)⟩,
   fun _ hr => absurd hr (Nat.not_lt_zero _), fun hr => absurd hr (Nat.not_lt_zero _), fun hr => absurd hr (Nat.not_lt_zero _), fun _ hr => absurd hr (Nat.not_lt_zero _), fun hr => absurd hr (Nat.not_lt_zero _), Nat.zero_le _, fun _ hr => absurd hr (Nat.not_lt_zero _), Nat.zero_le _, Nat.le_refl _⟩
theorem LogO.logW {w : World} {base : Nat} {u t : Value} {n : Nat} {rv : Nat → Value} {Z : Nat → Nat → Int} {y : Nat → Int} (h : LogO w base u t n rv Z y) :
    ∃ (ua : Option Addr) (l : Lay) (na : Option Addr) (g nc : Nat), u = .slice ua n l.cap ∧ t = .slice na n nc ∧ LogW w w.heap.size base ua l ⟨n, fun _ => n, Z⟩ na g 0 n y := by
  have hp := h.pos
  have hh := h.hi
  have hrv : ∀ r, r < n → ∃ y : Nat × Nat, rv r = .slice (some ⟨y.1, 0, none⟩) n y.2 ∧ y.1 < w.heap.size ∧ base ≤ y.1 ∧ (∀ j, j < n → w.cell? ⟨y.1, j, none⟩ = some (.int .i64 (Z r j))) ∧ (∀ j, w.frozen? ⟨y.1, j, none⟩ = false) := fun r hr => by
    obtain ⟨g, cap, h1, h2⟩ := h.out.bigN hr hp
    have h3 := h.out.row r hr
    rw [h1] at h3
    exact ⟨(g, cap), h1, own_lt h3 g rfl, ownsRow_block h3 g rfl, h2, fun j => World.ownsRow.frozenAt h3 j⟩
  obtain ⟨f, hf⟩ := choose_lt hrv
  obtain ⟨b, cap, rfl, hc⟩ := h.out.topv hp
  obtain ⟨g, nc, rfl, hg, hlt, _⟩ := h.ints.val (by omega)
  have hsep : ∀ r, r < n → (f r).1 ≠ g := fun r hr e => h.sep r hr (by rw [(hf r hr).1, e]; rfl)
  have hbg : b ≠ g := fun e => by
    have h1 := h.out.top
    have h2 := h.ints
    rcases owns_apart h1 h2 (by decide) with h3 | h3
    · simp [Value.ownBlock] at h3
    · exact h3 (by rw [e]; rfl)
  have hbr : ∀ r, r < n → (f r).1 ≠ b := fun r hr e => by
    have h1 := h.out.row r hr
    rw [(hf r hr).1] at h1
    rcases owns_apart h1 h.out.top (by decide) with h3 | h3
    · simp [Value.ownBlock] at h3
    · exact h3 (by rw [e]; rfl)
  have hrs : ∀ r s, r < n → s < n → r ≠ s → (f r).1 ≠ (f s).1 := fun r s hr hs hne e => h.out.apart r s hr hs hne (by rw [(hf r hr).1, (hf s hs).1, e]; rfl)
  refine ⟨some ⟨b, 0, Option.none⟩, ⟨b, 0, cap, fun r => some ⟨(f r).1, 0, Option.none⟩, fun r => (f r).2, fun r => (f r).1, fun _ => 0⟩, some ⟨g, 0, Option.none⟩, g, nc, rfl, rfl, ⟨⟨⟨fun r hr => ?_, fun r hr c hc' => ?_⟩, fun r hr c hc' => ?_, fun r s hr hs hne _ _ => hrs r s hr hs hne, fun r hr _ => hbr r hr⟩,
    ⟨⟨fun c hc' => ⟨rfl, hlt, by rw [Nat.zero_add]; exact h.ints.cell hc'⟩⟩, fun c _ => World.ownsRow.frozenAt h.ints _⟩, fun r hr _ _ => hsep r hr, fun _ _ => hbg, fun _ => ownsRow_block h.out.top b rfl, fun r hr _ => (hf r hr).2.2.1, fun _ => hg, by show n ≤ _; omega, fun _ _ => by show n ≤ _; omega, by omega, Nat.le_refl _⟩⟩
  · have hr' : r < n := hr
    refine ⟨rfl, own_lt h.out.top b rfl, ?_⟩
    rw [Nat.zero_add, hc r hr', (hf r hr').1]
  · have hr' : r < n := hr
    have hc'' : c < n := hc'
    refine ⟨rfl, (hf r hr').2.1, ?_⟩
    rw [Nat.zero_add]
    exact (hf r hr').2.2.2.1 c hc''
  · have hr' : r < n := hr
    exact (hf r hr').2.2.2.2 _
theorem MadeOk.res {w : World} {N : Nat} {Z : Nat → Nat → Int} {y : Nat → Nat} {ok : Bool} {e : Ending} {w' : World} (h : MadeOk w N Z y ok e w') : ResL w (if ok = true then N else 0) Z y e ok w' := by
  obtain ⟨hb, (⟨rfl, rfl⟩ | ⟨rfl, u, t, rv, rfl, hL⟩)⟩ := h
  · exact ⟨none, noLay, none, 0, 0, rfl, LogW.none w' Z _ _, hb⟩
  · obtain ⟨ua, l, na, g, nc, rfl, rfl, hW⟩ := hL.logW
    exact ⟨ua, l, na, g, nc, rfl, hW, hb⟩
end Go.Proofs.Ytgjacinolenheaa
