/- The walks of the program's functions that make a logic of two, given the walk of the plan; TimesOf. -/
import Derived.Test.YtgjacinolenheaaFe
import Derived.Test.YtgjacinolenheaaFg
import Derived.Test.YtgjacinolenheaaMathI
namespace Go.Proofs.Ytgjacinolenheaa
open Go.RowKit Go.Deep

theorem Ortho.congr {m : Mx} {z : Nat → Int} {y y' : Nat → Nat} {o : Nat} (h : Ortho m z y o) (e : ∀ a, a < m.n → y a = y' a) : Ortho m z y' o := by
  have l : ∀ a, a < m.n → y' a < m.n := fun a ha => by rw [← e a ha]; exact h.lt a ha
  exact ⟨h.lat, fun a ha => by rw [h.zy a ha, e a ha], l, fun a ha => by rw [← e a ha, ← e _ (h.lt a ha)]; exact h.inv a ha, fun a b ha hb hab => by rw [← e a ha, ← e b hb]; exact h.turn a b ha hb hab, h.ho, h.least, h.eq, fun a ha => by rw [← e a ha]; exact h.kept a ha⟩
theorem made_no' {w W : World} {ok : Bool} {p N : Nat} {Z : Nat → Nat → Int} {y : Nat → Nat} {x x' : Value} (hp : w.heap.size ≤ p) (hB : Below w.heap.size w W) (hok : ok = false) : MadeOk w N Z y ok (.returned (.tuple #[noLog, .bool false])) ((W.setCell ⟨p, 0, none⟩ x).setCell ⟨p, 1, none⟩ x') :=
  ⟨hB.trans ((set2_only _ _ _ _).below fun j hj => by have hj' : j = p := hj; omega), .inl ⟨hok, rfl⟩⟩
/-- Its opposites, as plain numbers. -/
def LD.y (d : LD) (a : Nat) : Nat := (d.z a).toNat
theorem LD.isY {d : LD} {w : World} {B : Nat} (h : d.At w B) (hok : d.ok = true) : ∃ o, d.Is w B d.y o := by
  obtain ⟨y, o, hI⟩ := LD.is h hok
  exact ⟨o, hI.at_, hI.ok, hI.orth.congr fun a ha => by unfold LD.y; rw [hI.orth.zy a ha]; simp, hI.len⟩

set_option maxRecDepth 100000 in
set_option maxHeartbeats 2000000 in
theorem TimesOf_walk {w : World} {d0 d1 : LD} {B N : Nat} {b : Nat → Nat → Bool} {y : Nat → Nat} {okp : Bool} (h0 : d0.At w B) (h1 : d1.At w B) (hN : okp = true → 1 ≤ N ∧ N ≤ 1000) (hy : okp = true → N ≤ 12 → ∀ a, a < N → y a < N)
    (hp : d0.ok = true → d1.ok = true → ∀ (W : World) (v : Value) (base o0 o1 : Nat), Below w.heap.size w W → W.ownsRow base 65 3 v 2 [d0.u, d0.t, .slice (some ⟨o0, 0, none⟩) 2 2, d1.u, d1.t, .slice (some ⟨o1, 0, none⟩) 2 2] → d0.Alg W o0 → d1.Alg W o1 → Calls Try.prog 81 #[.slice none 0 0, v] W (Planned W N b y okp)) :
    Calls Try.prog 31 #[.agg #[d0.u, d0.t], .agg #[d1.u, d1.t]] w (MadeOk w N (bitZ b) y (d0.ok && d1.ok && okp && decide (N ≤ 12))) := by
  have bA := (((Below.refl w.heap.size w).alloc (Nat.le_refl _) (.cells #[d0.u, d0.t] 27)).alloc (by simp) (.cells #[d1.u, d1.t] 27)).alloc (by simp only [World.size_alloc]; omega) (.cells #[.slice none 0 0, .slice none 0 0] 27)
  have hV := TwoAt.new ((w.alloc (.cells #[d0.u, d0.t] 27)).alloc (.cells #[d1.u, d1.t] 27)) (.slice none 0 0) (.slice none 0 0) 27
  simp only [World.size_alloc] at hV
  have hE := World.alloc_heap_new (((w.alloc (.cells #[d0.u, d0.t] 27)).alloc (.cells #[d1.u, d1.t] 27)).alloc (.cells #[.slice none 0 0, .slice none 0 0] 27)) (.cells #[d0.u, d0.t, d1.u, d1.t] 27)
  simp only [World.size_alloc] at hE
  have bB := (Below.refl (((w.alloc (.cells #[d0.u, d0.t] 27)).alloc (.cells #[d1.u, d1.t] 27)).alloc (.cells #[.slice none 0 0, .slice none 0 0] 27)).heap.size (((w.alloc (.cells #[d0.u, d0.t] 27)).alloc (.cells #[d1.u, d1.t] 27)).alloc (.cells #[.slice none 0 0, .slice none 0 0] 27))).alloc (Nat.le_refl _) (.cells #[d0.u, d0.t, d1.u, d1.t] 27)
  have hV1 := hV.below bB (by simp only [World.size_alloc]; omega)
  have B1 := bA.trans (bB.mono (by simp only [World.size_alloc]; omega))
  have ce : ∀ (i : Nat) (x : Value), #[d0.u, d0.t, d1.u, d1.t][i]? = some x → ((((w.alloc (.cells #[d0.u, d0.t] 27)).alloc (.cells #[d1.u, d1.t] 27)).alloc (.cells #[.slice none 0 0, .slice none 0 0] 27)).alloc (.cells #[d0.u, d0.t, d1.u, d1.t] 27)).cell? ⟨w.heap.size + 1 + 1 + 1, i, none⟩ = some x := fun i x hx => by
    simp only [World.cell?, hE]
    exact hx
  have hm : Calls Try.prog 48 #[.int .i64 3, .slice none 0 0, .slice (some ⟨w.heap.size + 1 + 1 + 1, 0, none⟩) 2 2] ((((w.alloc (.cells #[d0.u, d0.t] 27)).alloc (.cells #[d1.u, d1.t] 27)).alloc (.cells #[.slice none 0 0, .slice none 0 0] 27)).alloc (.cells #[d0.u, d0.t, d1.u, d1.t] 27)) (MadeOk _ N (bitZ b) y (d0.ok && d1.ok && okp && decide (N ≤ 12))) :=
    made_Pairs (d0 := d0) (d1 := d1) (B := B) (LogAt.step h0 B1) (LogAt.step h1 B1) (by simp) (ce 0 _ rfl) (ce 1 _ rfl) (ce 2 _ rfl) (ce 3 _ rfl) (fun e0 e1 W v q0 q1 hW hv a0 a1 => hp e0 e1 W v _ q0 q1 (B1.trans (hW.mono (by simp only [World.size_alloc]; omega))) hv a0 a1) hN hy
  have HM := Lib.hid hm
  clear hN hy hp hV hm hE ce bA bB h0 h1
  go_enter Try.func31, Try.ntmps31
  go_wp2_with fail
  go_at_call 48
  refine HM.out.mono ?_
  rintro e w1 ⟨b1, (⟨hok, rfl⟩ | ⟨hok, u, t, rv, rfl, hL⟩)⟩
  · have hV2 := hV1.below b1 (by simp only [World.size_alloc]; omega)
    have B2 := B1.trans (b1.mono B1.size)
    have HOK := Lib.hid hok
    have t0 := hV2.c0
    have t1 := hV2.c1
    have t2 := hV2.f0
    have t3 := hV2.f1
    clear hok b1
    unfold noLog
    go_wp2_with fail
    have hfin := (hV2.set0 (.slice none 0 0)).set1 (.slice none 0 0)
    have f0 := hfin.c0
    have f1 := hfin.c1
    exact bodyPost_ret (v := .tuple #[noLog, .bool false]) (by simp [results, Try.results31, go_sem, f0, f1, noLog]) rfl (made_no' (by omega) B2 HOK.out)
  · have hV2 := hV1.below b1 (by simp only [World.size_alloc]; omega)
    have B2 := B1.trans (b1.mono B1.size)
    have HOK := Lib.hid hok
    have hp := hL.pos
    obtain ⟨gu, cu, rfl, _⟩ := hL.out.topv (by omega)
    obtain ⟨gt, ct, rfl, _⟩ := hL.ints.val (by omega)
    have HL := Lib.hid hL
    have t0 := hV2.c0
    have t1 := hV2.c1
    have t2 := hV2.f0
    have t3 := hV2.f1
    have sB := B1.size
    clear hok hL b1
    go_wp2_with fail
    have hfin := (hV2.set0 (.slice (some ⟨gu, 0, none⟩) N cu)).set1 (.slice (some ⟨gt, 0, none⟩) N ct)
    have q0 := hfin.c0
    have q1 := hfin.c1
    have hon := set2_only w1 (w.heap.size + 1 + 1) (.slice (some ⟨gu, 0, none⟩) N cu) (.slice (some ⟨gt, 0, none⟩) N ct)
    refine bodyPost_ret (v := .tuple #[.agg #[.slice (some ⟨gu, 0, none⟩) N cu, .slice (some ⟨gt, 0, none⟩) N ct], .bool true]) (by simp [results, Try.results31, go_sem, q0, q1]) rfl ⟨B2.trans (hon.below fun j hj => by have hj' : j = (w.heap.size + 1 + 1) := hj; omega), .inr ⟨HOK.out, _, _, rv, rfl, ((HL.out.chg (Chg.of_only hon) fun j hj => ?_).base (by first | omega | (simp; omega)))⟩⟩
    have hj' : j = (w.heap.size + 1 + 1) := hj
    simp
    omega

set_option maxRecDepth 100000 in
set_option maxHeartbeats 2000000 in
theorem GluedOf_walk {w : World} {d0 d1 : LD} {B N : Nat} {b : Nat → Nat → Bool} {y : Nat → Nat} {okp : Bool} (h0 : d0.At w B) (h1 : d1.At w B) (hN : okp = true → 1 ≤ N ∧ N ≤ 1000) (hy : okp = true → N ≤ 12 → ∀ a, a < N → y a < N)
    (hp : d0.ok = true → d1.ok = true → ∀ (W : World) (v : Value) (base o0 o1 : Nat), Below w.heap.size w W → W.ownsRow base 65 3 v 2 [d0.u, d0.t, .slice (some ⟨o0, 0, none⟩) 2 2, d1.u, d1.t, .slice (some ⟨o1, 0, none⟩) 2 2] → d0.Alg W o0 → d1.Alg W o1 → Calls Try.prog 80 #[.slice none 0 0, v] W (Planned W N b y okp)) :
    Calls Try.prog 25 #[.agg #[d0.u, d0.t], .agg #[d1.u, d1.t]] w (MadeOk w N (bitZ b) y (d0.ok && d1.ok && okp && decide (N ≤ 12))) := by
  have bA := (((Below.refl w.heap.size w).alloc (Nat.le_refl _) (.cells #[d0.u, d0.t] 27)).alloc (by simp) (.cells #[d1.u, d1.t] 27)).alloc (by simp only [World.size_alloc]; omega) (.cells #[.slice none 0 0, .slice none 0 0] 27)
  have hV := TwoAt.new ((w.alloc (.cells #[d0.u, d0.t] 27)).alloc (.cells #[d1.u, d1.t] 27)) (.slice none 0 0) (.slice none 0 0) 27
  simp only [World.size_alloc] at hV
  have hE := World.alloc_heap_new (((w.alloc (.cells #[d0.u, d0.t] 27)).alloc (.cells #[d1.u, d1.t] 27)).alloc (.cells #[.slice none 0 0, .slice none 0 0] 27)) (.cells #[d0.u, d0.t, d1.u, d1.t] 27)
  simp only [World.size_alloc] at hE
  have bB := (Below.refl (((w.alloc (.cells #[d0.u, d0.t] 27)).alloc (.cells #[d1.u, d1.t] 27)).alloc (.cells #[.slice none 0 0, .slice none 0 0] 27)).heap.size (((w.alloc (.cells #[d0.u, d0.t] 27)).alloc (.cells #[d1.u, d1.t] 27)).alloc (.cells #[.slice none 0 0, .slice none 0 0] 27))).alloc (Nat.le_refl _) (.cells #[d0.u, d0.t, d1.u, d1.t] 27)
  have hV1 := hV.below bB (by simp only [World.size_alloc]; omega)
  have B1 := bA.trans (bB.mono (by simp only [World.size_alloc]; omega))
  have ce : ∀ (i : Nat) (x : Value), #[d0.u, d0.t, d1.u, d1.t][i]? = some x → ((((w.alloc (.cells #[d0.u, d0.t] 27)).alloc (.cells #[d1.u, d1.t] 27)).alloc (.cells #[.slice none 0 0, .slice none 0 0] 27)).alloc (.cells #[d0.u, d0.t, d1.u, d1.t] 27)).cell? ⟨w.heap.size + 1 + 1 + 1, i, none⟩ = some x := fun i x hx => by
    simp only [World.cell?, hE]
    exact hx
  have hm : Calls Try.prog 48 #[.int .i64 2, .slice none 0 0, .slice (some ⟨w.heap.size + 1 + 1 + 1, 0, none⟩) 2 2] ((((w.alloc (.cells #[d0.u, d0.t] 27)).alloc (.cells #[d1.u, d1.t] 27)).alloc (.cells #[.slice none 0 0, .slice none 0 0] 27)).alloc (.cells #[d0.u, d0.t, d1.u, d1.t] 27)) (MadeOk _ N (bitZ b) y (d0.ok && d1.ok && okp && decide (N ≤ 12))) :=
    made_Glued (d0 := d0) (d1 := d1) (B := B) (LogAt.step h0 B1) (LogAt.step h1 B1) (by simp) (ce 0 _ rfl) (ce 1 _ rfl) (ce 2 _ rfl) (ce 3 _ rfl) (fun e0 e1 W v q0 q1 hW hv a0 a1 => hp e0 e1 W v _ q0 q1 (B1.trans (hW.mono (by simp only [World.size_alloc]; omega))) hv a0 a1) hN hy
  have HM := Lib.hid hm
  clear hN hy hp hV hm hE ce bA bB h0 h1
  go_enter Try.func25, Try.ntmps25
  go_wp2_with fail
  go_at_call 48
  refine HM.out.mono ?_
  rintro e w1 ⟨b1, (⟨hok, rfl⟩ | ⟨hok, u, t, rv, rfl, hL⟩)⟩
  · have hV2 := hV1.below b1 (by simp only [World.size_alloc]; omega)
    have B2 := B1.trans (b1.mono B1.size)
    have HOK := Lib.hid hok
    have t0 := hV2.c0
    have t1 := hV2.c1
    have t2 := hV2.f0
    have t3 := hV2.f1
    clear hok b1
    unfold noLog
    go_wp2_with fail
    have hfin := (hV2.set0 (.slice none 0 0)).set1 (.slice none 0 0)
    have f0 := hfin.c0
    have f1 := hfin.c1
    exact bodyPost_ret (v := .tuple #[noLog, .bool false]) (by simp [results, Try.results25, go_sem, f0, f1, noLog]) rfl (made_no' (by omega) B2 HOK.out)
  · have hV2 := hV1.below b1 (by simp only [World.size_alloc]; omega)
    have B2 := B1.trans (b1.mono B1.size)
    have HOK := Lib.hid hok
    have hp := hL.pos
    obtain ⟨gu, cu, rfl, _⟩ := hL.out.topv (by omega)
    obtain ⟨gt, ct, rfl, _⟩ := hL.ints.val (by omega)
    have HL := Lib.hid hL
    have t0 := hV2.c0
    have t1 := hV2.c1
    have t2 := hV2.f0
    have t3 := hV2.f1
    have sB := B1.size
    clear hok hL b1
    go_wp2_with fail
    have hfin := (hV2.set0 (.slice (some ⟨gu, 0, none⟩) N cu)).set1 (.slice (some ⟨gt, 0, none⟩) N ct)
    have q0 := hfin.c0
    have q1 := hfin.c1
    have hon := set2_only w1 (w.heap.size + 1 + 1) (.slice (some ⟨gu, 0, none⟩) N cu) (.slice (some ⟨gt, 0, none⟩) N ct)
    refine bodyPost_ret (v := .tuple #[.agg #[.slice (some ⟨gu, 0, none⟩) N cu, .slice (some ⟨gt, 0, none⟩) N ct], .bool true]) (by simp [results, Try.results25, go_sem, q0, q1]) rfl ⟨B2.trans (hon.below fun j hj => by have hj' : j = (w.heap.size + 1 + 1) := hj; omega), .inr ⟨HOK.out, _, _, rv, rfl, ((HL.out.chg (Chg.of_only hon) fun j hj => ?_).base (by first | omega | (simp; omega)))⟩⟩
    have hj' : j = (w.heap.size + 1 + 1) := hj
    simp
    omega

theorem pairs_Z {d0 d1 : LD} {w : World} {B o0 o1 : Nat} {y0 y1 : Nat → Nat} (h0 : d0.Is w B y0 o0) (h1 : d1.Is w B y1 o1) {r c : Nat} (hr : r < d0.m.n * d1.m.n) (hc : c < d0.m.n * d1.m.n) : bitZ (pairsB d0.m d1.m) r c = timesZ d1.m.n d0.m.Z d1.m.Z r c := by
  obtain ⟨a1, a2, -⟩ := pair_parts hr
  obtain ⟨b1, b2, -⟩ := pair_parts hc
  unfold bitZ pairsB timesZ
  have e1 := h0.orth.lat.order.sq.bit _ a1 _ b1
  have e2 := h1.orth.lat.order.sq.bit _ a2 _ b2
  unfold leB
  rcases e1 with e1 | e1 <;> rcases e2 with e2 | e2 <;> rw [e1, e2] <;> rfl
theorem TimesOf_any {w : World} {d0 d1 : LD} {B : Nat} (h0 : d0.At w B) (h1 : d1.At w B) :
    Calls Try.prog 31 #[.agg #[d0.u, d0.t], .agg #[d1.u, d1.t]] w (MadeOk w (d0.m.n * d1.m.n) (timesZ d1.m.n d0.m.Z d1.m.Z) (timesY d1.m.n d0.y d1.y) (d0.ok && d1.ok && decide (d0.m.n * d1.m.n ≤ 12))) := by
  cases e0 : d0.ok with
  | false =>
    refine (TimesOf_walk (N := 1) (b := fun _ _ => true) (y := fun _ => 0) (okp := true) h0 h1 (fun _ => by omega) (fun _ _ a _ => by omega) (fun f => by rw [e0] at f; cases f)).mono fun e w' h => ?_
    rw [e0] at h
    exact ⟨h.1, .inl ⟨rfl, (h.2.resolve_right fun ⟨f, _⟩ => by simp at f).2⟩⟩
  | true =>
    cases e1 : d1.ok with
    | false =>
      refine (TimesOf_walk (N := 1) (b := fun _ _ => true) (y := fun _ => 0) (okp := true) h0 h1 (fun _ => by omega) (fun _ _ a _ => by omega) (fun _ f => by rw [e1] at f; cases f)).mono fun e w' h => ?_
      rw [e1] at h
      exact ⟨h.1, .inl ⟨rfl, (h.2.resolve_right fun ⟨f, _⟩ => by simp at f).2⟩⟩
    | true =>
      obtain ⟨o0, i0⟩ := LD.isY h0 e0
      obtain ⟨o1, i1⟩ := LD.isY h1 e1
      have n0 := i0.hi
      have n1 := i1.hi
      have hm : d0.m.n * d1.m.n ≤ 144 := Nat.le_trans (Nat.mul_le_mul n0.2 n1.2) (by omega)
      have hm1 : 1 ≤ d0.m.n * d1.m.n := Nat.mul_pos n0.1 n1.1
      refine (TimesOf_walk (N := d0.m.n * d1.m.n) (b := pairsB d0.m d1.m) (y := pairsY d1.m.n d0.y d1.y) (okp := true) h0 h1 (fun _ => by omega) (fun _ _ a ha => ?_) (fun _ _ W v base q0 q1 hW hv _ _ => planPairs_any (i0.step hW) (i1.step hW) hv)).mono fun e w' h => h.congr ?_ (fun r hr c hc => pairs_Z i0 i1 hr hc) fun _ _ => rfl
      · obtain ⟨a1, a2, -⟩ := pair_parts ha
        exact pair_lt (i0.orth.lt _ a1) (i1.orth.lt _ a2)
      · rw [e0, e1]
        rfl
end Go.Proofs.Ytgjacinolenheaa
