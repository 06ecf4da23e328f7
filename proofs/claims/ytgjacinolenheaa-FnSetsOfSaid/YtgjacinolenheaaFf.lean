/- The walks of the program's SetsOf and RingOf. -/
import Derived.Test.YtgjacinolenheaaFe
namespace Go.Proofs.Ytgjacinolenheaa
open Go.RowKit Go.Deep

theorem LogO.congrZ {w : World} {base : Nat} {u t : Value} {n : Nat} {rv : Nat → Value} {Z Z' : Nat → Nat → Int} {y y' : Nat → Int} (h : LogO w base u t n rv Z y) (e : ∀ r, r < n → ∀ c, c < n → Z r c = Z' r c) (e' : ∀ c, c < n → y c = y' c) : LogO w base u t n rv Z' y' := by
  refine ⟨h.pos, h.hi, ⟨h.out.top, fun r hr => ?_, h.out.apart, fun r c hr hc => by rw [← e r hr c hc]; exact h.out.bit r c hr hc⟩, ?_, h.sep, fun c hc => by rw [← e' c hc]; exact h.rng c hc⟩
  · have := h.out.row r hr
    rw [map_congr_range (g := fun c => Value.int .i64 (Z' r c)) fun c hc => by rw [e r hr c hc]] at this
    exact this
  · have := h.ints
    unfold IntsAt at this ⊢
    rw [map_congr_range (g := fun c => Value.int .i64 (y' c)) fun c hc => by rw [e' c hc]] at this
    exact this
theorem MadeOk.congr {w : World} {N : Nat} {Z Z' : Nat → Nat → Int} {y y' : Nat → Nat} {ok ok' : Bool} {e : Ending} {w' : World} (h : MadeOk w N Z y ok e w') (hok : ok = ok') (eZ : ∀ r, r < N → ∀ c, c < N → Z r c = Z' r c) (ey : ∀ c, c < N → y c = y' c) : MadeOk w N Z' y' ok' e w' := by
  subst hok
  exact ⟨h.1, h.2.imp id fun ⟨a, u, t, rv, he, hl⟩ => ⟨a, u, t, rv, he, hl.congrZ eZ fun c hc => by rw [ey c hc]⟩⟩

set_option maxRecDepth 100000 in
set_option maxHeartbeats 1000000 in
theorem SetsOf_walk {w : World} {t : Int} {N : Nat} {b : Nat → Nat → Bool} {y : Nat → Nat} {okp : Bool} (hN : okp = true → 1 ≤ N ∧ N ≤ 1000) (hy : okp = true → N ≤ 12 → ∀ a, a < N → y a < N)
    (hp : ∀ (W : World) (g nc : Nat) (pv : Value), RowAt W W.heap.size (some ⟨g, 0, none⟩) g 0 1 (fun _ => t) → Calls Try.prog 78 #[.slice (some ⟨g, 0, none⟩) 1 nc, pv] W (Planned W N b y okp)) :
    Calls Try.prog 14 #[.int .i64 t] w (MadeOk w N (bitZ b) y (okp && decide (N ≤ 12))) := by
  have hV := TwoAt.new w (.slice none 0 0) (.slice none 0 0) 27
  have hV1 := hV.below ((Below.refl _ (w.alloc (.cells #[.slice none 0 0, .slice none 0 0] 27))).alloc (Nat.le_refl _) (.cells #[.int .i64 t] 3)) (by simp)
  have B1 := ((Below.refl w.heap.size w).alloc (Nat.le_refl _) (.cells #[.slice none 0 0, .slice none 0 0] 27)).alloc (by simp) (.cells #[.int .i64 t] 3)
  have HN := Lib.hid hN
  have HY := Lib.hid hy
  have hm : Calls Try.prog 48 #[.int .i64 0, .slice (some ⟨w.heap.size + 1, 0, none⟩) 1 1, .slice none 0 0] ((w.alloc (.cells #[.slice none 0 0, .slice none 0 0] 27)).alloc (.cells #[.int .i64 t] 3)) (MadeOk _ N (bitZ b) y (okp && decide (N ≤ 12))) :=
    made_Sets (fun W hW => hp W _ _ _ ⟨fun c hc => ⟨rfl, by have := hW.size; simp at this; omega, by
      obtain rfl : c = 0 := by omega
      exact (hW.cell (p := ⟨w.heap.size + 1, 0, none⟩) (by simp)).trans (by simp)⟩⟩) hN hy
  have HM := Lib.hid hm
  clear hN hy hp hV hm
  go_enter Try.func14, Try.ntmps14
  go_wp2_with fail
  go_at_call 48
  refine HM.out.mono ?_
  rintro e w1 ⟨b1, (⟨hok, rfl⟩ | ⟨hok, u, t, rv, rfl, hL⟩)⟩
  · have hV2 := hV1.below b1 (by simp only [World.size_alloc]; omega)
    have B2 := B1.trans (b1.mono B1.size)
    have HOK := Lib.hid hok
    have t0 := hV2.c0
    have t1 := hV2.c1
    have t2 := hV2.f0
    have t3 := hV2.f1
    clear hok b1
    unfold noLog
    go_wp2_with fail
    have hfin := (hV2.set0 (.slice none 0 0)).set1 (.slice none 0 0)
    have f0 := hfin.c0
    have f1 := hfin.c1
    exact bodyPost_ret (v := .tuple #[noLog, .bool false]) (by simp [results, Try.results14, go_sem, f0, f1, noLog]) rfl (made_no rfl B2 HOK.out)
  · have hV2 := hV1.below b1 (by simp only [World.size_alloc]; omega)
    have B2 := B1.trans (b1.mono B1.size)
    have HOK := Lib.hid hok
    have hp := hL.pos
    obtain ⟨gu, cu, rfl, _⟩ := hL.out.topv (by omega)
    obtain ⟨gt, ct, rfl, _⟩ := hL.ints.val (by omega)
    have HL := Lib.hid hL
    have t0 := hV2.c0
    have t1 := hV2.c1
    have t2 := hV2.f0
    have t3 := hV2.f1
    have sB := B1.size
    clear hok hL b1
    go_wp2_with fail
    have hfin := (hV2.set0 (.slice (some ⟨gu, 0, none⟩) N cu)).set1 (.slice (some ⟨gt, 0, none⟩) N ct)
    have q0 := hfin.c0
    have q1 := hfin.c1
    have hon := set2_only w1 w.heap.size (.slice (some ⟨gu, 0, none⟩) N cu) (.slice (some ⟨gt, 0, none⟩) N ct)
    refine bodyPost_ret (v := .tuple #[.agg #[.slice (some ⟨gu, 0, none⟩) N cu, .slice (some ⟨gt, 0, none⟩) N ct], .bool true]) (by simp [results, Try.results14, go_sem, q0, q1]) rfl ⟨B2.trans (hon.below fun j hj => by have hj' : j = w.heap.size := hj; omega), .inr ⟨HOK.out, _, _, rv, rfl, ((HL.out.chg (Chg.of_only hon) fun j hj => ?_).base (by first | omega | (simp; omega)))⟩⟩
    have hj' : j = w.heap.size := hj
    simp
    omega

set_option maxRecDepth 100000 in
set_option maxHeartbeats 1000000 in
theorem RingOf_walk {w : World} {t : Int} {N : Nat} {b : Nat → Nat → Bool} {y : Nat → Nat} {okp : Bool} (hN : okp = true → 1 ≤ N ∧ N ≤ 1000) (hy : okp = true → N ≤ 12 → ∀ a, a < N → y a < N)
    (hp : ∀ (W : World) (g nc : Nat) (pv : Value), RowAt W W.heap.size (some ⟨g, 0, none⟩) g 0 1 (fun _ => t) → Calls Try.prog 79 #[.slice (some ⟨g, 0, none⟩) 1 nc, pv] W (Planned W N b y okp)) :
    Calls Try.prog 22 #[.int .i64 t] w (MadeOk w N (bitZ b) y (okp && decide (N ≤ 12))) := by
  have hV := TwoAt.new w (.slice none 0 0) (.slice none 0 0) 27
  have hV1 := hV.below ((Below.refl _ (w.alloc (.cells #[.slice none 0 0, .slice none 0 0] 27))).alloc (Nat.le_refl _) (.cells #[.int .i64 t] 3)) (by simp)
  have B1 := ((Below.refl w.heap.size w).alloc (Nat.le_refl _) (.cells #[.slice none 0 0, .slice none 0 0] 27)).alloc (by simp) (.cells #[.int .i64 t] 3)
  have HN := Lib.hid hN
  have HY := Lib.hid hy
  have hm : Calls Try.prog 48 #[.int .i64 1, .slice (some ⟨w.heap.size + 1, 0, none⟩) 1 1, .slice none 0 0] ((w.alloc (.cells #[.slice none 0 0, .slice none 0 0] 27)).alloc (.cells #[.int .i64 t] 3)) (MadeOk _ N (bitZ b) y (okp && decide (N ≤ 12))) :=
    made_Ring (fun W hW => hp W _ _ _ ⟨fun c hc => ⟨rfl, by have := hW.size; simp at this; omega, by
      obtain rfl : c = 0 := by omega
      exact (hW.cell (p := ⟨w.heap.size + 1, 0, none⟩) (by simp)).trans (by simp)⟩⟩) hN hy
  have HM := Lib.hid hm
  clear hN hy hp hV hm
  go_enter Try.func22, Try.ntmps22
  go_wp2_with fail
  go_at_call 48
  refine HM.out.mono ?_
  rintro e w1 ⟨b1, (⟨hok, rfl⟩ | ⟨hok, u, t, rv, rfl, hL⟩)⟩
  · have hV2 := hV1.below b1 (by simp only [World.size_alloc]; omega)
    have B2 := B1.trans (b1.mono B1.size)
    have HOK := Lib.hid hok
    have t0 := hV2.c0
    have t1 := hV2.c1
    have t2 := hV2.f0
    have t3 := hV2.f1
    clear hok b1
    unfold noLog
    go_wp2_with fail
    have hfin := (hV2.set0 (.slice none 0 0)).set1 (.slice none 0 0)
    have f0 := hfin.c0
    have f1 := hfin.c1
    exact bodyPost_ret (v := .tuple #[noLog, .bool false]) (by simp [results, Try.results22, go_sem, f0, f1, noLog]) rfl (made_no rfl B2 HOK.out)
  · have hV2 := hV1.below b1 (by simp only [World.size_alloc]; omega)
    have B2 := B1.trans (b1.mono B1.size)
    have HOK := Lib.hid hok
    have hp := hL.pos
    obtain ⟨gu, cu, rfl, _⟩ := hL.out.topv (by omega)
    obtain ⟨gt, ct, rfl, _⟩ := hL.ints.val (by omega)
    have HL := Lib.hid hL
    have t0 := hV2.c0
    have t1 := hV2.c1
    have t2 := hV2.f0
    have t3 := hV2.f1
    have sB := B1.size
    clear hok hL b1
    go_wp2_with fail
    have hfin := (hV2.set0 (.slice (some ⟨gu, 0, none⟩) N cu)).set1 (.slice (some ⟨gt, 0, none⟩) N ct)
    have q0 := hfin.c0
    have q1 := hfin.c1
    have hon := set2_only w1 w.heap.size (.slice (some ⟨gu, 0, none⟩) N cu) (.slice (some ⟨gt, 0, none⟩) N ct)
    refine bodyPost_ret (v := .tuple #[.agg #[.slice (some ⟨gu, 0, none⟩) N cu, .slice (some ⟨gt, 0, none⟩) N ct], .bool true]) (by simp [results, Try.results22, go_sem, q0, q1]) rfl ⟨B2.trans (hon.below fun j hj => by have hj' : j = w.heap.size := hj; omega), .inr ⟨HOK.out, _, _, rv, rfl, ((HL.out.chg (Chg.of_only hon) fun j hj => ?_).base (by first | omega | (simp; omega)))⟩⟩
    have hj' : j = w.heap.size := hj
    simp
    omega

theorem SetsOf_any {w : World} {t : Int} : Calls Try.prog 14 #[.int .i64 t] w (MadeOk w (2 ^ t.toNat) setsZ (setsY (2 ^ t.toNat)) (setsOkB t)) := by
  have key : setsOkB t = true → 1 ≤ 2 ^ t.toNat ∧ 2 ^ t.toNat ≤ 8 := fun h => by
    unfold setsOkB at h
    simp at h
    rcases (show t = 0 ∨ t = 1 ∨ t = 2 ∨ t = 3 by omega) with rfl | rfl | rfl | rfl <;> decide
  refine (SetsOf_walk (N := 2 ^ t.toNat) (b := setsB) (y := setsY (2 ^ t.toNat)) (okp := setsOkB t) (fun h => by have := key h; omega) (fun h _ a ha => by have := key h; unfold setsY; omega) (fun W g nc pv h => planSets_any h (Nat.le_refl _))).mono fun e w' h => h.congr ?_ (fun r _ c _ => by rw [setsB_Z]) fun _ _ => rfl
  cases h : setsOkB t with
  | false => rfl
  | true => have := key h; simp; omega
theorem RingOf_any {w : World} {t : Int} : Calls Try.prog 22 #[.int .i64 t] w (MadeOk w 6 ringZ ringY (decide (t = 6))) :=
  (RingOf_walk (N := 6) (b := ringB) (y := ringY) (okp := decide (t = 6)) (fun _ => by omega) (fun _ _ a ha => by unfold ringY; omega) (fun W g nc pv h => planRing_any h (Nat.le_refl _))).mono fun e w' h => h.congr (by simp) (fun r hr c hc => ringB_Z r hr c hc) fun _ _ => rfl
end Go.Proofs.Ytgjacinolenheaa
