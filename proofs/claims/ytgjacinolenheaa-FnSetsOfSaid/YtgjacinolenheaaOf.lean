/- The walks of the laws' helpers on logics: how large one is, its copy, whether two are equal. -/
import Derived.Test.YtgjacinolenheaaOe
import Derived.Test.YtgjacinolenheaaLc
import Derived.Test.YtgjacinolenheaaDb
namespace Go.Proofs.Ytgjacinolenheaa
open Go.RowKit Go.Deep

/-- A variable of two cells. -/
structure TwoAt (w : World) (p : Nat) (u v : Value) : Prop where
  c0 : w.cell? ⟨p, 0, none⟩ = some u
  c1 : w.cell? ⟨p, 1, none⟩ = some v
  f0 : w.frozen? ⟨p, 0, none⟩ = false
  f1 : w.frozen? ⟨p, 1, none⟩ = false
theorem TwoAt.new (w : World) (x y : Value) (t : TypeId) : TwoAt (w.alloc (.cells #[x, y] t)) w.heap.size x y := by
  have h := World.alloc_heap_new w (.cells #[x, y] t)
  exact ⟨by simp only [World.cell?, h]; rfl, by simp only [World.cell?, h]; rfl, by simp only [World.frozen?, h]; rfl, by simp only [World.frozen?, h]; rfl⟩
theorem TwoAt.below {w w' : World} {p B : Nat} {u v : Value} (h : TwoAt w p u v) (hb : Below B w w') (hp : p < B) : TwoAt w' p u v :=
  ⟨(hb.cell (p := ⟨p, 0, none⟩) hp).trans h.c0, (hb.cell (p := ⟨p, 1, none⟩) hp).trans h.c1, (hb.frozen (p := ⟨p, 0, none⟩) hp).trans h.f0, (hb.frozen (p := ⟨p, 1, none⟩) hp).trans h.f1⟩
theorem TwoAt.other {w : World} {p q i : Nat} {u v x : Value} (h : TwoAt w p u v) (hne : p ≠ q) : TwoAt (w.setCell ⟨q, i, none⟩ x) p u v :=
  ⟨by rw [World.cell?_setCell_other _ _ _ _ (fun e => by injection e with e1; omega)]; exact h.c0, by rw [World.cell?_setCell_other _ _ _ _ (fun e => by injection e with e1; omega)]; exact h.c1,
   by rw [World.frozen?_setCell]; exact h.f0, by rw [World.frozen?_setCell]; exact h.f1⟩
theorem TwoAt.set0 {w : World} {p : Nat} {u v : Value} (h : TwoAt w p u v) (x : Value) : TwoAt (w.setCell ⟨p, 0, none⟩ x) p x v :=
  ⟨World.cell?_setCell_same _ _ _ h.c0, by rw [World.cell?_setCell_other _ _ _ _ (fun e => by injection e with _ e1; omega)]; exact h.c1, by rw [World.frozen?_setCell]; exact h.f0, by rw [World.frozen?_setCell]; exact h.f1⟩
theorem TwoAt.set1 {w : World} {p : Nat} {u v : Value} (h : TwoAt w p u v) (x : Value) : TwoAt (w.setCell ⟨p, 1, none⟩ x) p u x :=
  ⟨by rw [World.cell?_setCell_other _ _ _ _ (fun e => by injection e with _ e1; omega)]; exact h.c0, World.cell?_setCell_same _ _ _ h.c1, by rw [World.frozen?_setCell]; exact h.f0, by rw [World.frozen?_setCell]; exact h.f1⟩

/-- What the size's reckoning leaves. -/
def SzL (m : Mx) (k : Nat) (e : Ending) : Prop := ∃ v : Int, e = .returned (.int .i64 v) ∧ (v < 0 ∨ (m.n ≤ 1048576 ∧ (∀ r, r < m.n → m.L r ≤ 1048576) ∧ k ≤ 1048576 ∧ 0 ≤ v ∧ v ≤ 1048576))
set_option maxRecDepth 100000 in
set_option maxHeartbeats 1000000 in
theorem szLogic_any {w : World} {B : Nat} {ua : Option Addr} {l : Lay} {m : Mx} {na : Option Addr} {g o k nc : Nat} {z : Nat → Int} (h : LogAt w B ua l m na g o k z) :
    Calls Try.prog 41 #[.agg #[.slice ua m.n l.cap, .slice na k nc], .int .i64 1048576] w fun e w' => SzL m k e ∧ Below w.heap.size w w' := by
  have hX := BoxN.start w #[.slice ua m.n l.cap, .slice na k nc] 45
  have h1 := Lib.hid (h.alloc (.cells #[.slice ua m.n l.cap, .slice na k nc] 45))
  have q0 := hX.cell 0 rfl
  have q1 := hX.cell 1 rfl
  have hkk := h.hk
  clear h
  go_enter Try.func41, Try.ntmps41
  go_wp2_with fail
  go_at_call 75
  refine (szIntSS_any _ _ _ _ _ h1.out.hn h1.out.hL h1.out.mat).mono ?_
  rintro e w1 ⟨⟨v, rfl, hv⟩, rfl⟩
  by_cases hneg : v < 0
  · go_wp2_with fail
    go_ret
    exact ⟨⟨-1, rfl, .inl (by omega)⟩, hX.below⟩
  · obtain ⟨hn, hL, hv0, hv1⟩ : m.n ≤ 1048576 ∧ (∀ r, r < m.n → m.L r ≤ 1048576) ∧ 0 ≤ v ∧ v ≤ 1048576 := hv.resolve_left hneg
    clear hv
    have HL := Lib.hid hL
    clear hL
    by_cases hs : v < (k : Int)
    · go_wp2_with fail
      go_at_call 76
      refine (szIntS_neg _ _ _ _ _ hkk hv0 hv1 hs).mono ?_
      rintro e w2 ⟨rfl, rfl⟩
      go_wp2_with fail
      go_ret
      exact ⟨⟨-1, rfl, .inl (by omega)⟩, hX.below⟩
    · have hs' : ¬ v - (k : Int) < 0 := by omega
      go_wp2_with fail
      go_at_call 76
      refine (szIntS_pos _ _ _ _ _ hkk hv0 hv1 (by omega)).mono ?_
      rintro e w2 ⟨rfl, rfl⟩
      go_wp2_with fail
      go_ret
      exact ⟨⟨_, rfl, .inr ⟨hn, HL.out, by omega, by omega, by omega⟩⟩, hX.below⟩

/-- What a copy is. -/
def CopyL (w : World) (m : Mx) (k : Nat) (z : Nat → Int) (e : Ending) (w' : World) : Prop :=
  ∃ N q : Nat, e = .returned (.agg #[.slice (some ⟨N, 0, none⟩) m.n m.n, .slice (some ⟨q, 0, none⟩) k k]) ∧ LogAt w' w'.heap.size (some ⟨N, 0, none⟩) (freshLay N m) m (some ⟨q, 0, none⟩) q 0 k z ∧ Below w.heap.size w w'
theorem fresh_from (N : Nat) (m : Mx) : LayFrom N (freshLay N m) m := ⟨fun _ _ => Nat.le_refl _, fun r _ _ _ => by show N ≤ N + 1 + r; omega⟩
theorem CopyS.rowAt {w w' : World} {n : Nat} {z : Nat → Int} (h : CopyS w w' n n z) : RowAt w' w'.heap.size (some ⟨w.heap.size, 0, none⟩) w.heap.size 0 n z :=
  ⟨fun c hc => ⟨rfl, by rw [h.size]; omega, by
    have := h.row.cell hc
    rw [if_pos hc] at this
    rw [Nat.zero_add]
    exact this⟩⟩
theorem RowAt.only {S : Nat → Prop} {w w' : World} {B : Nat} {a : Option Addr} {g o n : Nat} {z : Nat → Int} (h : RowAt w B a g o n z) (ho : OnlyIn S w w') (hS : ¬ S g) : RowAt w' B a g o n z :=
  ⟨fun c hc => by
    obtain ⟨h1, h2, h3⟩ := h.row c hc
    refine ⟨h1, h2, ?_⟩
    rw [World.cell?_of_block (w := w) (ho.block g hS)]
    exact h3⟩

set_option maxRecDepth 100000 in
set_option maxHeartbeats 2000000 in
theorem toLogic_any {w : World} {B : Nat} {ua : Option Addr} {l : Lay} {m : Mx} {na : Option Addr} {g o k nc : Nat} {z : Nat → Int} (h : LogAt w B ua l m na g o k z) (hn : m.n ≤ 1048576) (hL : ∀ r, r < m.n → m.L r ≤ 1048576) (hk : k ≤ 1048576) :
    Calls Try.prog 42 #[.agg #[.slice ua m.n l.cap, .slice na k nc]] w (CopyL w m k z) := by
  have hbx := TwoAt.new w (.slice ua m.n l.cap) (.slice na k nc) 45
  have b1 := (Below.refl w.heap.size w).alloc (Nat.le_refl _) (.cells #[.slice ua m.n l.cap, .slice na k nc] 45)
  have hrs := TwoAt.new (w.alloc (.cells #[.slice ua m.n l.cap, .slice na k nc] 45)) (.slice none 0 0) (.slice none 0 0) 27
  have hou := TwoAt.new ((w.alloc (.cells #[.slice ua m.n l.cap, .slice na k nc] 45)).alloc (.cells #[.slice none 0 0, .slice none 0 0] 27)) (.slice none 0 0) (.slice none 0 0) 27
  rw [World.size_alloc] at hrs
  rw [World.size_alloc, World.size_alloc] at hou
  have b2 := (Below.refl (w.heap.size + 1) (w.alloc (.cells #[.slice ua m.n l.cap, .slice na k nc] 45))).alloc (by simp) (.cells #[.slice none 0 0, .slice none 0 0] 27)
  have b3 := (Below.refl (w.heap.size + 1 + 1) ((w.alloc (.cells #[.slice ua m.n l.cap, .slice na k nc] 45)).alloc (.cells #[.slice none 0 0, .slice none 0 0] 27))).alloc (by simp) (.cells #[.slice none 0 0, .slice none 0 0] 27)
  have hbx2 := (hbx.below b2 (by omega)).below b3 (by omega)
  have hrs2 := hrs.below b3 (by omega)
  have bw : Below w.heap.size w (((w.alloc (.cells #[.slice ua m.n l.cap, .slice na k nc] 45)).alloc (.cells #[.slice none 0 0, .slice none 0 0] 27)).alloc (.cells #[.slice none 0 0, .slice none 0 0] 27)) := (b1.trans (b2.mono (by omega))).trans (b3.mono (by omega))
  have hsz : (((w.alloc (.cells #[.slice ua m.n l.cap, .slice na k nc] 45)).alloc (.cells #[.slice none 0 0, .slice none 0 0] 27)).alloc (.cells #[.slice none 0 0, .slice none 0 0] 27)).heap.size ≥ w.heap.size + 3 := by simp
  have HL := Lib.hid hL
  have HH := Lib.hid h
  clear hL h hbx hrs b1 b2 b3
  go_enter Try.func42, Try.ntmps42
  generalize hW : ((w.alloc (.cells #[.slice ua m.n l.cap, .slice na k nc] 45)).alloc (.cells #[.slice none 0 0, .slice none 0 0] 27)).alloc (.cells #[.slice none 0 0, .slice none 0 0] 27) = W at hbx2 hrs2 hou bw hsz
  have k0 := hbx2.c0
  have k1 := hbx2.c1
  have k4 := hou.c0
  have k5 := hou.f0
  go_wp2_with fail
  go_at_call 77
  refine (toIntSS_any B _ _ _ _ hn HL.out (HH.out.mat.below (bw.mono HH.out.hB)) (by have := HH.out.hB; omega)).mono ?_
  rintro e w2 ⟨rfl, hS⟩
  clear hW k0 k1 k4 k5
  have hb2 := hS.old
  have hs2 := hb2.size
  have hbx3 := (hbx2.below hb2 (by omega)).other (q := w.heap.size + 1 + 1) (i := 0) (x := .slice (some ⟨W.heap.size, 0, none⟩) m.n m.n) (by omega)
  have hrs3 := (hrs2.below hb2 (by omega)).other (q := w.heap.size + 1 + 1) (i := 0) (x := .slice (some ⟨W.heap.size, 0, none⟩) m.n m.n) (by omega)
  have hou2 := hou.below hb2 (by omega)
  have hou3 := hou2.set0 (.slice (some ⟨W.heap.size, 0, none⟩) m.n m.n)
  have hM3 := hS.mat.only (S := fun x => x = w.heap.size + 1 + 1) (fresh_from W.heap.size m) ((OnlyIn.refl (fun x => x = w.heap.size + 1 + 1) w2).set (b := w.heap.size + 1 + 1) rfl 0 (.slice (some ⟨W.heap.size, 0, none⟩) m.n m.n)) (fun j hj => by have hj' : j = w.heap.size + 1 + 1 := hj; omega)
  have bw3 := (bw.trans (hb2.mono (by omega))).setCell (p := ⟨w.heap.size + 1 + 1, 0, none⟩) (by show w.heap.size ≤ w.heap.size + 1 + 1; omega) (.slice (some ⟨W.heap.size, 0, none⟩) m.n m.n)
  have k4 := hou2.c0
  have k5 := hou2.f0
  have hsz3 : (w2.setCell ⟨w.heap.size + 1 + 1, 0, none⟩ (.slice (some ⟨W.heap.size, 0, none⟩) m.n m.n)).heap.size ≤ w2.heap.size := by simp
  have hsy3 : w2.heap.size ≤ (w2.setCell ⟨w.heap.size + 1 + 1, 0, none⟩ (.slice (some ⟨W.heap.size, 0, none⟩) m.n m.n)).heap.size := by simp
  generalize hW3 : w2.setCell ⟨w.heap.size + 1 + 1, 0, none⟩ (.slice (some ⟨W.heap.size, 0, none⟩) m.n m.n) = w3 at hbx3 hrs3 hou3 hM3 bw3 hsz3 hsy3
  clear hS hbx2 hrs2 hou hou2
  have k1 := hbx3.c1
  have k2 := hou3.c1
  have k3 := hou3.f1
  go_wp2_with fail
  go_at_call 43
  refine (toIntS_any B _ _ _ _ _ _ _ hk (HH.out.row.below (bw3.mono HH.out.hB)) (by have := HH.out.hB; have := bw3.size; omega)).mono ?_
  rintro e w4 ⟨rfl, hC⟩
  clear hW3 k1 k2 k3 k4 k5
  have hb4 := hC.old
  have hs4 := hb4.size
  have hbw3 := bw3.size
  have hrs4 := (hrs3.below hb4 (by omega)).other (q := w.heap.size + 1 + 1) (i := 1) (x := .slice (some ⟨w3.heap.size, 0, none⟩) k k) (by omega)
  have hou4 := hou3.below hb4 (by omega)
  have hou5 := hou4.set1 (.slice (some ⟨w3.heap.size, 0, none⟩) k k)
  have hM4 := (hM3.below (B := w2.heap.size) (hb4.mono (by omega))).only (S := fun x => x = w.heap.size + 1 + 1) (fresh_from W.heap.size m) ((OnlyIn.refl (fun x => x = w.heap.size + 1 + 1) w4).set (b := w.heap.size + 1 + 1) rfl 1 (.slice (some ⟨w3.heap.size, 0, none⟩) k k)) (fun j hj => by have hj' : j = w.heap.size + 1 + 1 := hj; omega)
  have hR4 := hC.rowAt.only (S := fun x => x = w.heap.size + 1 + 1) ((OnlyIn.refl (fun x => x = w.heap.size + 1 + 1) w4).set (b := w.heap.size + 1 + 1) rfl 1 (.slice (some ⟨w3.heap.size, 0, none⟩) k k)) (fun hj => by have hj' : w3.heap.size = w.heap.size + 1 + 1 := hj; omega)
  have bw5 := (bw3.trans (hb4.mono (by omega))).setCell (p := ⟨w.heap.size + 1 + 1, 1, none⟩) (by show w.heap.size ≤ w.heap.size + 1 + 1; omega) (.slice (some ⟨w3.heap.size, 0, none⟩) k k)
  have k2 := hou4.c1
  have k3 := hou4.f1
  have hsz5 : (w4.setCell ⟨w.heap.size + 1 + 1, 1, none⟩ (.slice (some ⟨w3.heap.size, 0, none⟩) k k)).heap.size ≤ w4.heap.size := by simp
  have hsy5 : w4.heap.size ≤ (w4.setCell ⟨w.heap.size + 1 + 1, 1, none⟩ (.slice (some ⟨w3.heap.size, 0, none⟩) k k)).heap.size := by simp
  generalize hW5 : w4.setCell ⟨w.heap.size + 1 + 1, 1, none⟩ (.slice (some ⟨w3.heap.size, 0, none⟩) k k) = w5 at hrs4 hou5 hM4 hR4 bw5 hsz5 hsy5
  clear hbx3 hrs3 hou3 hou4 hM3
  have r0 := hou5.c0
  have r1 := hou5.c1
  have r2 := hrs4.c0
  have r3 := hrs4.c1
  have r4 := hrs4.f0
  have r5 := hrs4.f1
  go_wp2_with fail
  clear hW5
  have hfin := (hrs4.set0 (.slice (some ⟨W.heap.size, 0, none⟩) m.n m.n)).set1 (.slice (some ⟨w3.heap.size, 0, none⟩) k k)
  have t0 := hfin.c0
  have t1 := hfin.c1
  have hon := ((OnlyIn.refl (fun x => x = w.heap.size + 1) w5).set (b := w.heap.size + 1) rfl 0 (.slice (some ⟨W.heap.size, 0, none⟩) m.n m.n)).set (b := w.heap.size + 1) rfl 1 (.slice (some ⟨w3.heap.size, 0, none⟩) k k)
  have hson := hon.size
  refine bodyPost_ret (v := .agg #[.slice (some ⟨W.heap.size, 0, none⟩) m.n m.n, .slice (some ⟨w3.heap.size, 0, none⟩) k k]) (by simp [results, Try.results42, go_sem, t0, t1]) rfl
    ⟨W.heap.size, w3.heap.size, rfl, ⟨(hM4.only (fresh_from W.heap.size m) hon (fun j hj => by have hj' : j = w.heap.size + 1 := hj; omega)).more (by omega), ?_, by omega, fun r hr => by have := HL.out r hr; omega, by omega, Nat.le_refl _⟩, bw5.trans (hon.below fun j hj => by have hj' : j = w.heap.size + 1 := hj; omega)⟩
  have hR5 := hR4.only hon (fun hj => by have hj' : w3.heap.size = w.heap.size + 1 := hj; omega)
  exact ⟨fun c hc => by obtain ⟨a1, a2, a3⟩ := hR5.row c hc; exact ⟨a1, by omega, a3⟩⟩

set_option maxRecDepth 100000 in
set_option maxHeartbeats 1000000 in
theorem eqLogic_any {w : World} {B B' : Nat} {ua ua' : Option Addr} {l l' : Lay} {m : Mx} {na na' : Option Addr} {g o g' o' k nc nc' : Nat} {z : Nat → Int} (h : LogAt w B ua l m na g o k z) (h' : LogAt w B' ua' l' m na' g' o' k z) :
    Calls Try.prog 38 #[.agg #[.slice ua m.n l.cap, .slice na k nc], .agg #[.slice ua' m.n l'.cap, .slice na' k nc']] w fun e w' => e = .returned (.bool true) ∧ Below w.heap.size w w' := by
  have hX := BoxN.start w #[.slice ua m.n l.cap, .slice na k nc] 27
  have hY := BoxN.start (w.alloc (.cells #[.slice ua m.n l.cap, .slice na k nc] 27)) #[.slice ua' m.n l'.cap, .slice na' k nc'] 27
  have hX2 := hX.step hY.below
  have q0 := hX2.cell 0 rfl
  have q1 := hX2.cell 1 rfl
  have q2 := hY.cell 0 rfl
  have q3 := hY.cell 1 rfl
  rw [World.size_alloc] at q2 q3
  have h2 := Lib.hid ((h.step hX.below).step hY.below)
  have h2' := Lib.hid ((h'.step hX.below).step hY.below)
  have hX3 := hX2.below
  have hs := hX3.size
  clear h h' hX hY hX2
  go_enter Try.func38, Try.ntmps38
  generalize hW : (w.alloc (.cells #[.slice ua m.n l.cap, .slice na k nc] 27)).alloc (.cells #[.slice ua' m.n l'.cap, .slice na' k nc'] 27) = W at q0 q1 q2 q3 h2 h2' hX3 hs
  have hm := h2.out.mat.more h2.out.hB
  have hm' := h2'.out.mat.more h2'.out.hB
  have hr := h2.out.row
  have hr' := h2'.out.row
  go_wp2_with fail
  go_at_call 71
  refine (eqIntSS_same W.heap.size _ _ l l' m _ h2.out.hn h2.out.hL hm hm').mono ?_
  rintro e w2 ⟨rfl, d2⟩
  obtain ⟨n2, rfl⟩ := d2
  clear hW
  go_wp2_with fail
  go_at_call 44
  refine (eqIntS_same W.heap.size _ _ g g' o o' k nc nc' z _ h2.out.hk (RowAt.drewN ⟨fun c hc => by obtain ⟨a1, a2, a3⟩ := hr.row c hc; exact ⟨a1, by have := h2.out.hB; omega, a3⟩⟩ n2) (RowAt.drewN ⟨fun c hc => by obtain ⟨a1, a2, a3⟩ := hr'.row c hc; exact ⟨a1, by have := h2'.out.hB; omega, a3⟩⟩ n2)).mono ?_
  rintro e w3 ⟨rfl, d3⟩
  go_wp2_with fail
  go_ret
  exact ⟨rfl, (Below.drewN' hX3 n2).trans (d3.below _)⟩
end Go.Proofs.Ytgjacinolenheaa
