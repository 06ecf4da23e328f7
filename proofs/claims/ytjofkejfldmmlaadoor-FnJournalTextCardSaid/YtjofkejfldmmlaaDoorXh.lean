/- The reference's reader of deeds. -/
import Derived.Test.YtjofkejfldmmlaaDoorXg
namespace Go.Proofs.YtjofkejfldmmlaaDoor
open Go.RowKit Go.Deep

/-- The cells of a deed. -/
def deedC (d : Dd) : List Value := [.int .i64 d.k, .int .i64 d.a, .int .i64 d.b]
theorem flat_len (L : List Dd) : (L.flatMap deedC).length = L.length * 3 := by
  induction L with
  | nil => rfl
  | cons d L ih => rw [List.flatMap_cons, List.length_append, ih, List.length_cons]; show 3 + _ = _; omega
theorem flat_at {L : List Dd} {k : Nat} {d : Dd} (h : L[k]? = some d) : (L.flatMap deedC)[k * 3]? = some (.int .i64 d.k) ∧ (L.flatMap deedC)[k * 3 + 1]? = some (.int .i64 d.a) ∧ (L.flatMap deedC)[k * 3 + 2]? = some (.int .i64 d.b) := by
  induction L generalizing k with
  | nil => simp at h
  | cons x L ih =>
    rw [List.flatMap_cons]
    cases k with
    | zero =>
      obtain rfl : x = d := by simpa using h
      exact ⟨rfl, rfl, rfl⟩
    | succ k =>
      obtain ⟨h1, h2, h3⟩ := ih (k := k) (by simpa using h)
      have hl : (deedC x).length = 3 := rfl
      refine ⟨?_, ?_, ?_⟩
      · rw [List.getElem?_append_right (by rw [hl]; omega), hl, show (k + 1) * 3 - 3 = k * 3 by omega]; exact h1
      · rw [List.getElem?_append_right (by rw [hl]; omega), hl, show (k + 1) * 3 + 1 - 3 = k * 3 + 1 by omega]; exact h2
      · rw [List.getElem?_append_right (by rw [hl]; omega), hl, show (k + 1) * 3 + 2 - 3 = k * 3 + 2 by omega]; exact h3
theorem cells_new (w : World) (t : TypeId) (l : List Value) : ∀ j u, l[j]? = some u → (w.alloc (.cells l.toArray t)).cell? ((⟨w.heap.size, 0, none⟩ : Addr).add j) = some u := by
  intro j u h
  have e9 : (⟨w.heap.size, 0, none⟩ : Addr).add j = ⟨w.heap.size, j, none⟩ := by unfold Addr.add; split <;> simp_all
  rw [e9]
  exact (BoxN.start w l.toArray t).cell j (by simpa using h)
theorem infoDeed : (Tryd.prog.info? 24).map (fun i => (i.zero, i.size, i.bytes)) = some (some (.agg #[.int .i64 0, .int .i64 0, .int .i64 0]), 3, 24) := by kernel_rfl
theorem find_at {L : List Dd} {p : Dd → Bool} {k : Nat} {d : Dd} (h : L[k]? = some d) (hp : p d = true) (hno : ∀ x ∈ L.take k, p x = false) : L.find? p = some d := by
  induction L generalizing k with
  | nil => simp at h
  | cons x L ih =>
    cases k with
    | zero =>
      obtain rfl : x = d := by simpa using h
      rw [List.find?_cons_of_pos hp]
    | succ k =>
      rw [List.find?_cons_of_neg (by rw [hno x (by rw [List.take_succ_cons]; exact List.mem_cons_self)]; simp)]
      exact ih (k := k) (by simpa using h) fun y hy => hno y (by rw [List.take_succ_cons]; exact List.mem_cons_of_mem _ hy)
theorem take_hit {L : List Dd} {p : Dd → Bool} {k : Nat} {d : Dd} (h : L[k]? = some d) (hp : p d = false) (hno : ∀ x ∈ L.take k, p x = false) : ∀ x ∈ L.take (k + 1), p x = false := by
  rw [List.take_add_one, h]
  intro x hx
  rcases List.mem_append.1 hx with hx | hx
  · exact hno x hx
  · obtain rfl : x = d := by simpa using hx
    exact hp
set_option maxRecDepth 100000 in
set_option maxHeartbeats 8000000 in
theorem sread_other (s : ByteArray) (hs : s.size ≤ 1099511627776) (h2 : ¬ (cutL 32 s.data.toList).length = 2) (h3 : ¬ (cutL 32 s.data.toList).length = 3) (w : World) : Calls Tryd.prog 16 #[.string s] w (ReadOf (readD s.data.toList) w) := by
  obtain ⟨i0, hi, hz0, hz1, hz2⟩ := info_parts infoDeed
  have HI := Lib.hid hi
  have HZ0 := Lib.hid hz0
  have HZ1 := Lib.hid hz1
  have HZ2 := Lib.hid hz2
  have hX := BoxN.start w #[.int .i64 0, .int .i64 0, .int .i64 0] 24
  have bX := hX.below
  have bX1 : w.heap.size + 1 ≤ (w.alloc (.cells #[.int .i64 0, .int .i64 0, .int .i64 0] 24)).heap.size := by simp
  clear hi hz0 hz1 hz2
  go_enter Tryd.func16, Tryd.ntmps16
  go_wp2_with fail
  generalize w.alloc (.cells #[.int .i64 0, .int .i64 0, .int .i64 0] 24) = W at hX bX bX1 ⊢
  go_at_call 41
  refine (l1Cut_any s hs _).mono ?_
  rintro e w1 ⟨hb1, vw, rfl, hown⟩
  have hX1 := hX.step hb1
  have B1 := bX.trans (hb1.mono bX.size)
  have hownL : (w1.alloc (.cells #[.int .i64 2, .int .i64 0, .int .i64 0, .int .i64 4, .int .i64 0, .int .i64 0] 24)).ownsRow w1.heap.size 24 3 (.slice (some ⟨w1.heap.size, 0, none⟩) 2 2) 2 [.int .i64 2, .int .i64 0, .int .i64 0, .int .i64 4, .int .i64 0, .int .i64 0] := World.ownsRow_lit (base := w1.heap.size) (e := 24) (size := 3) w1 #[.int .i64 2, .int .i64 0, .int .i64 0, .int .i64 4, .int .i64 0, .int .i64 0] 2 (Nat.le_refl _) (by decide) rfl
  have hbL := (Below.refl w1.heap.size w1).alloc (Nat.le_refl _) (.cells #[.int .i64 2, .int .i64 0, .int .i64 0, .int .i64 4, .int .i64 0, .int .i64 0] 24)
  have hX2 := hX1.step hbL
  have B2 := B1.trans (hbL.mono B1.size)
  have hsL : w1.heap.size < (w1.alloc (.cells #[.int .i64 2, .int .i64 0, .int .i64 0, .int .i64 4, .int .i64 0, .int .i64 0] 24)).heap.size := by simp
  clear hX
  have HO : Hid (w1.ownsRow W.heap.size 9 1 vw (cutL 32 s.data.toList).length ((cutL 32 s.data.toList).map strV)) := hown
  have hcand : candL s.data.toList = [⟨2, 0, 0⟩, ⟨4, 0, 0⟩] := by
    unfold candL
    split
    · next e => rw [e] at h2; exact absurd rfl h2
    · next e => rw [e] at h3; exact absurd rfl h3
    · rfl
  obtain ⟨g, cap, rfl, hg0, hg1, hg2⟩ := own_val hown (by have := cutL_ne 32 s.data.toList; cases e : cutL 32 s.data.toList with | nil => exact absurd e this | cons a b => simp)
  obtain ⟨nw, hnw⟩ : ∃ n, (cutL 32 s.data.toList).length = n := ⟨_, rfl⟩
  rw [hnw] at h2 h3 ⊢
  have h2' : ((nw : Int) == 2) = false := beq_eq_false_iff_ne.2 (by omega)
  have h3' : ((nw : Int) == 3) = false := beq_eq_false_iff_ne.2 (by omega)
  have HLC := Lib.hid hcand
  clear hown HO hcand hnw
  go_wp2_with fail
  generalize w1.alloc (.cells #[.int .i64 2, .int .i64 0, .int .i64 0, .int .i64 4, .int .i64 0, .int .i64 0] 24) = W2 at hownL hbL hX2 B2 hsL ⊢
  have HV : Hid (W2.ownsRow w1.heap.size 24 3 (.slice (some ⟨w1.heap.size, 0, none⟩) 2 2) 2 ((candL s.data.toList).flatMap deedC)) := by
    show World.ownsRow _ _ _ _ _ _ _
    rw [HLC.out]; exact hownL
  have hXV := hX2
  have BV := B2
  clear hownL
  have hnl : (candL s.data.toList).length = 2 := by have h1 := HV.out.1; have h2 := flat_len (candL s.data.toList); omega
  obtain ⟨g6, hg6⟩ : ∃ g, w1.heap.size = g := ⟨_, rfl⟩
  have hg61 : g6 < W2.heap.size := by omega
  rw [hg6] at HV ⊢
  have HN := Lib.hid hnl
  clear hnl
  go_loopw [6] (fun i wr => ∃ k : Nat, k ≤ 2 ∧ i = .int .i64 (k : Int) ∧ Below W2.heap.size W2 wr ∧ Hid (∀ x ∈ (candL s.data.toList).take k, hitD s.data.toList x = false)) (fun i _ => 2 - (intOf i).toNat)
  case atStart => exact ⟨0, by omega, rfl, Below.refl _ _, fun x hx => absurd hx (by simp)⟩
  case round =>
    obtain ⟨k, hk, rfl, hD, hM⟩ := hrel
    have hXr := hXV.step hD
    have Br := BV.trans (hD.mono BV.size)
    by_cases hlt : k < 2
    · have hlt' : (k : Int) < 2 := by omega
      have hk0 : (0 : Int) ≤ k := by omega
      obtain ⟨d, hd⟩ : ∃ d, (candL s.data.toList)[k]? = some d := ⟨_, List.getElem?_eq_getElem (by rw [HN.out]; exact hlt)⟩
      have HD := Lib.hid hd
      obtain ⟨x0, x1, x2⟩ := flat_at hd
      have c0 := (hD.cell (p := ⟨g6, k * 3, none⟩) hg61).trans (own_cell HV.out x0)
      have c1 := (hD.cell (p := ⟨g6, k * 3 + 1, none⟩) hg61).trans (own_cell HV.out x1)
      have c2 := (hD.cell (p := ⟨g6, k * 3 + 2, none⟩) hg61).trans (own_cell HV.out x2)
      clear hd x0 x1 x2
      by_cases hs0 : s.data.toList = []
      · have hs1 : (s.toList != []) = false := by rw [Lib.toList_data, hs0]; rfl
        have hs2 : (s.toList == []) = true := by rw [Lib.toList_data, hs0]; rfl
        have HQ : Hid (∀ x ∈ (candL s.data.toList).take (k + 1), hitD s.data.toList x = false) := fun x _ => by rw [hs0]; rfl
        clear hs0
        go_wp2_with fail
        exact ⟨⟨k + 1, by omega, by go_num, hD, HQ⟩, by simp [intOf]; omega⟩
      · have hs1 : (s.toList != []) = true := bne_iff_ne.2 (by rw [Lib.toList_data]; exact hs0)
        have hs2 : (s.toList == []) = false := beq_eq_false_iff_ne.2 (by rw [Lib.toList_data]; exact hs0)
        have HS0 := Lib.hid hs0
        clear hs0
        go_wp2_with fail
        go_at_call 12
        refine (spec_DeedText d _).mono ?_
        rintro e w5 ⟨rfl, hb5⟩
        have d0 := (hb5.cell (p := ⟨g6, k * 3, none⟩) (by have := hD.size; show g6 < _; omega)).trans c0
        have d1 := (hb5.cell (p := ⟨g6, k * 3 + 1, none⟩) (by have := hD.size; show g6 < _; omega)).trans c1
        have d2 := (hb5.cell (p := ⟨g6, k * 3 + 2, none⟩) (by have := hD.size; show g6 < _; omega)).trans c2
        have hX5 := hXr.step hb5
        have B5 := Br.trans (hb5.mono Br.size)
        obtain ⟨tx, ex⟩ : ∃ t : ByteArray, (⟨(deedL d).toArray⟩ : ByteArray) = t := ⟨_, rfl⟩
        have lx : tx.data.toList = deedL d := by rw [← ex]
        unfold strV
        rw [ex]
        clear ex c0 c1 c2
        by_cases hq : tx.data.toList = s.data.toList
        · have hq' := ba_same hq
          have r0 := hX5.cell 0 rfl
          have r1 := hX5.cell 1 rfl
          have r2 := hX5.cell 2 rfl
          have f0 := hX5.frozen 0
          have f1 := hX5.frozen 1
          have f2 := hX5.frozen 2
          obtain ⟨t0, t1, t2, tb⟩ := hX5.set3 (.int .i64 d.k) (.int .i64 d.a) (.int .i64 d.b)
          have HR : Hid (readD s.data.toList = some d) := by
            show _ = _
            rw [← cand_read]
            exact find_at HD.out (hit_iff.2 ⟨HS0.out, by rw [← lx]; exact hq⟩) hM.out
          clear hq
          go_wp2_with fail
          generalize ((w5.setCell ⟨w.heap.size, 0, none⟩ (.int .i64 d.k)).setCell ⟨w.heap.size, 1, none⟩ (.int .i64 d.a)).setCell ⟨w.heap.size, 2, none⟩ (.int .i64 d.b) = V5 at t0 t1 t2 tb ⊢
          refine bodyPost_ret (v := .tuple #[.agg #[.int .i64 d.k, .int .i64 d.a, .int .i64 d.b], .bool true]) (by simp [results, Tryd.results16, go_sem, t0, t1, t2]) rfl ?_
          exact ⟨tb, by rw [HR.out]; rfl⟩
        · have hq' := ba_ne hq
          have HQ : Hid (∀ x ∈ (candL s.data.toList).take (k + 1), hitD s.data.toList x = false) := take_hit HD.out (by
            cases e : hitD s.data.toList d with
            | false => rfl
            | true => exact absurd ((lx.trans (hit_iff.1 e).2)) hq) hM.out
          clear hq
          go_wp2_with fail
          exact ⟨⟨k + 1, by omega, by go_num, hD.trans (hb5.mono hD.size), HQ⟩, by simp [intOf]; omega⟩
    · have hlt' : ¬ (k : Int) < 2 := by omega
      have r0 := hXr.cell 0 rfl
      have r1 := hXr.cell 1 rfl
      have r2 := hXr.cell 2 rfl
      have f0 := hXr.frozen 0
      have f1 := hXr.frozen 1
      have f2 := hXr.frozen 2
      obtain ⟨t0, t1, t2, tb⟩ := hXr.set3 (.int .i64 0) (.int .i64 0) (.int .i64 0)
      have HR : Hid (readD s.data.toList = none) := by
        show _ = _
        rw [← cand_read, List.find?_eq_none]
        intro x hx
        rw [hM.out x (by rw [List.take_of_length_le (by have := HN.out; omega)]; exact hx)]; simp
      go_wp2_with fail
      generalize ((wr.setCell ⟨w.heap.size, 0, none⟩ (.int .i64 0)).setCell ⟨w.heap.size, 1, none⟩ (.int .i64 0)).setCell ⟨w.heap.size, 2, none⟩ (.int .i64 0) = V5 at t0 t1 t2 tb ⊢
      refine bodyPost_ret (v := .tuple #[.agg #[.int .i64 0, .int .i64 0, .int .i64 0], .bool false]) (by simp [results, Tryd.results16, go_sem, t0, t1, t2]) rfl ?_
      exact ⟨tb, by rw [HR.out]; rfl⟩
theorem cut_word {s x : List UInt8} (h : x ∈ cutL 32 s) : x.length ≤ s.length := by
  induction s generalizing x with
  | nil => simp [cutL] at h; subst h; exact Nat.le_refl _
  | cons c t ih =>
    unfold cutL at h
    split at h
    · rcases List.mem_cons.1 h with rfl | h
      · exact Nat.zero_le _
      · exact Nat.le_succ_of_le (ih h)
    · split at h
      · next w ws e =>
        rcases List.mem_cons.1 h with rfl | h
        · have := ih (x := w) (by rw [e]; exact List.mem_cons_self)
          rw [List.length_cons, List.length_cons]; omega
        · exact Nat.le_succ_of_le (ih (by rw [e]; exact List.mem_cons_of_mem _ h))
      · next e => exact absurd e (cutL_ne 32 t)
set_option maxRecDepth 100000 in
set_option maxHeartbeats 8000000 in
theorem sread_two (s : ByteArray) (hs : s.size ≤ 1099511627776) {u v : List UInt8} (hc : cutL 32 s.data.toList = [u, v]) (w : World) : Calls Tryd.prog 16 #[.string s] w (ReadOf (readD s.data.toList) w) := by
  obtain ⟨i0, hi, hz0, hz1, hz2⟩ := info_parts infoDeed
  have HI := Lib.hid hi
  have HZ0 := Lib.hid hz0
  have HZ1 := Lib.hid hz1
  have HZ2 := Lib.hid hz2
  have hX := BoxN.start w #[.int .i64 0, .int .i64 0, .int .i64 0] 24
  have bX := hX.below
  have bX1 : w.heap.size + 1 ≤ (w.alloc (.cells #[.int .i64 0, .int .i64 0, .int .i64 0] 24)).heap.size := by simp
  clear hi hz0 hz1 hz2
  go_enter Tryd.func16, Tryd.ntmps16
  go_wp2_with fail
  generalize w.alloc (.cells #[.int .i64 0, .int .i64 0, .int .i64 0] 24) = W at hX bX bX1 ⊢
  go_at_call 41
  refine (l1Cut_any s hs _).mono ?_
  rintro e w1 ⟨hb1, vw, rfl, hown⟩
  have hX1 := hX.step hb1
  have B1 := bX.trans (hb1.mono bX.size)
  have hownL : (w1.alloc (.cells #[.int .i64 2, .int .i64 0, .int .i64 0, .int .i64 4, .int .i64 0, .int .i64 0] 24)).ownsRow w1.heap.size 24 3 (.slice (some ⟨w1.heap.size, 0, none⟩) 2 2) 2 [.int .i64 2, .int .i64 0, .int .i64 0, .int .i64 4, .int .i64 0, .int .i64 0] := World.ownsRow_lit (base := w1.heap.size) (e := 24) (size := 3) w1 #[.int .i64 2, .int .i64 0, .int .i64 0, .int .i64 4, .int .i64 0, .int .i64 0] 2 (Nat.le_refl _) (by decide) rfl
  have hbL := (Below.refl w1.heap.size w1).alloc (Nat.le_refl _) (.cells #[.int .i64 2, .int .i64 0, .int .i64 0, .int .i64 4, .int .i64 0, .int .i64 0] 24)
  have hX2 := hX1.step hbL
  have B2 := B1.trans (hbL.mono B1.size)
  have hsL : w1.heap.size < (w1.alloc (.cells #[.int .i64 2, .int .i64 0, .int .i64 0, .int .i64 4, .int .i64 0, .int .i64 0] 24)).heap.size := by simp
  clear hX
  have hcand : candL s.data.toList = [⟨2, 0, 0⟩, ⟨4, 0, 0⟩, ⟨0, digI v, 0⟩, ⟨1, digI v, 0⟩] := by
    unfold candL; rw [hc]
  rw [hc] at hown
  have hwl : ∀ x ∈ cutL 32 s.data.toList, x.length ≤ 1099511627776 := fun x hx => Nat.le_trans (cut_word hx) hs
  have hvl : v.length ≤ 1099511627776 := hwl v (by rw [hc]; simp)
  obtain ⟨g, cap, rfl, hg0, hg1, hg2⟩ := own_val hown (by simp)
  have y1 := own_cell hown (j := 1) (x := strV v) rfl
  obtain ⟨tv, ev⟩ : ∃ b : ByteArray, (⟨v.toArray⟩ : ByteArray) = b := ⟨_, rfl⟩
  have lv : tv.data.toList = v := by rw [← ev]
  have DV := digits_any tv (by rw [size_data, lv]; omega)
  rw [lv] at DV
  unfold strV at y1
  rw [ev] at y1
  obtain ⟨q, hq⟩ : ∃ q, digI v = q := ⟨_, rfl⟩
  rw [hq] at DV hcand
  have HLC := Lib.hid hcand
  have z1 := (hbL.cell (p := ⟨g, 1, none⟩) hg1).trans y1
  clear hown hcand hq hc ev lv y1 hwl
  go_wp2_with fail
  generalize w1.alloc (.cells #[.int .i64 2, .int .i64 0, .int .i64 0, .int .i64 4, .int .i64 0, .int .i64 0] 24) = W2 at hownL hbL hX2 B2 hsL z1 ⊢
  have S0 : (fun w' => w'.cell? ⟨g, 1, none⟩ = some (.string tv)) W2.drew := z1
  refine region_plain (fuel := 14) (listed := #[false, false, false, false, false, false, false, false, false, false, false, false, false, false]) (fun w' => w'.cell? ⟨g, 1, none⟩ = some (.string tv)) (by kernel_rfl) (by kernel_rfl) (by kernel_rfl) ?_
  refine hold_take (i := 0) (d := 15) (v := ?vT0) (listed' := #[true, false, false, false, false, false, false, false, false, false, false, false, false, false]) rfl (by kernel_rfl) (by kernel_rfl) (by kernel_rfl) rfl (by rfl) (by kernel_rfl) S0 ?hT0 ?rT0
  case hT0 =>
    intro w' hSw
    have k0 := hSw; clear hSw
    go_simp
    try with_reducible rfl
  simp only [List.setIfInBounds_toArray, List.set_cons_zero, List.set_cons_succ]
  refine hold_take (i := 1) (d := 16) (v := ?vT1) (listed' := #[true, true, false, false, false, false, false, false, false, false, false, false, false, false]) rfl (by kernel_rfl) (by kernel_rfl) (by kernel_rfl) rfl (by rfl) (by kernel_rfl) S0 ?hT1 ?rT1
  case hT1 =>
    intro w' hSw
    have k0 := hSw; clear hSw
    go_simp
    try with_reducible rfl
  simp only [List.setIfInBounds_toArray, List.set_cons_zero, List.set_cons_succ]
  refine hold_take (i := 2) (d := 17) (v := ?vT2) (listed' := #[true, true, true, false, false, false, false, false, false, false, false, false, false, false]) rfl (by kernel_rfl) (by kernel_rfl) (by kernel_rfl) rfl (by rfl) (by kernel_rfl) S0 ?hT2 ?rT2
  case hT2 =>
    intro w' hSw
    have k0 := hSw; clear hSw
    go_simp
    try with_reducible rfl
  simp only [List.setIfInBounds_toArray, List.set_cons_zero, List.set_cons_succ]
  refine hold_take (i := 3) (d := 18) (v := ?vT3) (listed' := #[true, true, true, true, false, false, false, false, false, false, false, false, false, false]) rfl (by kernel_rfl) (by kernel_rfl) (by kernel_rfl) rfl (by rfl) (by kernel_rfl) S0 ?hT3 ?rT3
  case hT3 =>
    intro w' hSw
    have k0 := hSw; clear hSw
    go_simp
    try with_reducible rfl
  simp only [List.setIfInBounds_toArray, List.set_cons_zero, List.set_cons_succ]
  refine hold_take (i := 6) (d := 21) (v := ?vT6) (listed' := #[true, true, true, true, false, false, true, false, false, false, false, false, false, false]) rfl (by kernel_rfl) (by kernel_rfl) (by kernel_rfl) rfl (by rfl) (by kernel_rfl) S0 ?hT6 ?rT6
  case hT6 =>
    intro w' hSw
    have k0 := hSw; clear hSw
    go_simp
    try with_reducible rfl
  simp only [List.setIfInBounds_toArray, List.set_cons_zero, List.set_cons_succ]
  refine hold_take (i := 7) (d := 22) (v := ?vT7) (listed' := #[true, true, true, true, false, false, true, true, false, false, false, false, false, false]) rfl (by kernel_rfl) (by kernel_rfl) (by kernel_rfl) rfl (by rfl) (by kernel_rfl) S0 ?hT7 ?rT7
  case hT7 =>
    intro w' hSw
    have k0 := hSw; clear hSw
    go_simp
    try with_reducible rfl
  simp only [List.setIfInBounds_toArray, List.set_cons_zero, List.set_cons_succ]
  refine hold_take (i := 8) (d := 23) (v := ?vT8) (listed' := #[true, true, true, true, false, false, true, true, true, false, false, false, false, false]) rfl (by kernel_rfl) (by kernel_rfl) (by kernel_rfl) rfl (by rfl) (by kernel_rfl) S0 ?hT8 ?rT8
  case hT8 =>
    intro w' hSw
    have k0 := hSw; clear hSw
    go_simp
    try with_reducible rfl
  simp only [List.setIfInBounds_toArray, List.set_cons_zero, List.set_cons_succ]
  refine hold_call (i := 4) (d := 19) (listed' := #[true, true, true, true, true, false, true, true, true, false, false, false, false, false]) rfl (by kernel_rfl) rfl (by rfl) (by kernel_rfl) ?heT4 (DV _) ?hcT4
  case heT4 => (go_simp; try rfl)
  rintro e x4 ⟨rfl, rfl⟩
  refine ⟨_, rfl, S0, ?_⟩
  simp only [List.setIfInBounds_toArray, List.set_cons_zero, List.set_cons_succ]
  refine hold_take (i := 5) (d := 20) (v := ?vT5) (listed' := #[true, true, true, true, true, true, true, true, true, false, false, false, false, false]) rfl (by kernel_rfl) (by kernel_rfl) (by kernel_rfl) rfl (by rfl) (by kernel_rfl) S0 ?hT5 ?rT5
  case hT5 =>
    intro w' hSw
    have k0 := hSw; clear hSw
    go_simp
    try with_reducible rfl
  simp only [List.setIfInBounds_toArray, List.set_cons_zero, List.set_cons_succ]
  refine hold_call (i := 9) (d := 24) (listed' := #[true, true, true, true, true, true, true, true, true, true, false, false, false, false]) rfl (by kernel_rfl) rfl (by rfl) (by kernel_rfl) ?heT9 (DV _) ?hcT9
  case heT9 => (go_simp; try rfl)
  rintro e x9 ⟨rfl, rfl⟩
  refine ⟨_, rfl, S0, ?_⟩
  simp only [List.setIfInBounds_toArray, List.set_cons_zero, List.set_cons_succ]
  refine hold_take (i := 10) (d := 25) (v := ?vT10) (listed' := #[true, true, true, true, true, true, true, true, true, true, true, false, false, false]) rfl (by kernel_rfl) (by kernel_rfl) (by kernel_rfl) rfl (by rfl) (by kernel_rfl) S0 ?hT10 ?rT10
  case hT10 =>
    intro w' hSw
    have k0 := hSw; clear hSw
    go_simp
    try with_reducible rfl
  simp only [List.setIfInBounds_toArray, List.set_cons_zero, List.set_cons_succ]
  have S1 : (fun w' => w'.cell? ⟨g, 1, none⟩ = some (.string tv)) (W2.drew.alloc (.cells #[.int .i64 0, .int .i64 q, .int .i64 0, .int .i64 1, .int .i64 q, .int .i64 0] 24)) := ((Chg.alloc (fun _ => False) W2.drew _).at_cell (fun h => h) S0)
  refine hold_value (i := 11) (d := 26) (listed' := #[true, true, true, true, true, true, true, true, true, true, true, true, false, false]) rfl (by kernel_rfl) rfl (by rfl) (by kernel_rfl) (v := .slice (some ⟨W2.drew.heap.size, 0, none⟩) 2 2) (w' := W2.drew.alloc (.cells #[.int .i64 0, .int .i64 q, .int .i64 0, .int .i64 1, .int .i64 q, .int .i64 0] 24)) ?hvT11 S1 ?_
  case hvT11 =>
    go_simp
    try with_reducible rfl
  simp only [List.setIfInBounds_toArray, List.set_cons_zero, List.set_cons_succ]
  have hown2 : (W2.drew.alloc (.cells #[.int .i64 0, .int .i64 q, .int .i64 0, .int .i64 1, .int .i64 q, .int .i64 0] 24)).ownsRow w1.heap.size 24 3 (.slice (some ⟨w1.heap.size, 0, none⟩) 2 2) 2 [.int .i64 2, .int .i64 0, .int .i64 0, .int .i64 4, .int .i64 0, .int .i64 0] := (Chg.alloc (fun _ => False) W2.drew _).own (ownsRow_below hownL (Below.refl _ W2).drew (Nat.le_refl _)) (fun _ _ h => h)
  have hsz9 : w1.heap.size ≤ (W2.drew.alloc (.cells #[.int .i64 0, .int .i64 q, .int .i64 0, .int .i64 1, .int .i64 q, .int .i64 0] 24)).heap.size := by have e : W2.drew.heap.size = W2.heap.size := rfl; simp; omega
  refine hold_append (k := 12) (d := 27) (listed' := #[true, true, true, true, true, true, true, true, true, true, true, true, true, false]) rfl (by kernel_rfl) rfl (by kernel_rfl) rfl (.tmp 15) (.tmp 26) 32 rfl (w1.heap.size) 24 i0 (.agg #[.int .i64 0, .int .i64 0, .int .i64 0]) 3 24 Tryd.underlying32 HI.out HZ0.out HZ1.out HZ2.out rfl (by decide) (.slice (some ⟨w1.heap.size, 0, none⟩) 2 2) 2 _ (by simp [Act.eval]) hown2 ⟨W2.drew.heap.size, 0, none⟩ 2 2 [.int .i64 0, .int .i64 q, .int .i64 0, .int .i64 1, .int .i64 q, .int .i64 0] (by simp [Act.eval]) rfl (cells_new W2.drew _ [.int .i64 0, .int .i64 q, .int .i64 0, .int .i64 1, .int .i64 q, .int .i64 0]) (by simp [Value.oneCell']) (by decide) (by decide) hsz9 ?_
  intro v6 w6 hown6 hgrow6 hat6
  have S2 : (fun w' => w'.cell? ⟨g, 1, none⟩ = some (.string tv)) w6 := hgrow6.cell S1 (fun e => by have e1 : g = w1.heap.size := Option.some.inj e; omega)
  refine ⟨S2, ?_⟩
  simp only [List.setIfInBounds_toArray, List.set_cons_zero, List.set_cons_succ]
  refine hold_take (i := 13) (d := 5) (v := ?vT13) (listed' := #[true, true, true, true, true, true, true, true, true, true, true, true, true, true]) rfl (by kernel_rfl) (by kernel_rfl) (by kernel_rfl) rfl (by rfl) (by kernel_rfl) S2 ?hT13 ?rT13
  case hT13 =>
    intro w' hSw
    have k0 := hSw; clear hSw
    go_simp
    try with_reducible rfl
  simp only [List.setIfInBounds_toArray, List.set_cons_zero, List.set_cons_succ]
  refine hold_done (by kernel_rfl) ?_ _
  have bW : Below w1.heap.size W2 w6 := ((((Below.refl w1.heap.size W2).drew).alloc (by have e : W2.drew.heap.size = W2.heap.size := rfl; omega) (.cells #[.int .i64 0, .int .i64 q, .int .i64 0, .int .i64 1, .int .i64 q, .int .i64 0] 24))).grown hgrow6 hsz9 (ownsRow_block hown2)
  have hXV : BoxN w #[.int .i64 0, .int .i64 0, .int .i64 0] 24 w6 := ⟨hX2.since.trans (bW.mono (by have := hX1.size; omega))⟩
  have BV := B2.trans (bW.mono B1.size)
  have HV : Hid (w6.ownsRow w1.heap.size 24 3 v6 4 ((candL s.data.toList).flatMap deedC)) := by
    show World.ownsRow _ _ _ _ _ _ _
    rw [HLC.out]; exact hown6
  clear hown6 hgrow6 hat6 hown2 hsz9 S0 S1 S2 z1 DV hownL hX2 hbL
  have hnl : (candL s.data.toList).length = 4 := by have h1 := HV.out.1; have h2 := flat_len (candL s.data.toList); omega
  obtain ⟨g6, cap6, rfl, hg60, hg61, hg62⟩ := own_val HV.out (by omega)
  have HN := Lib.hid hnl
  clear hnl
  go_wp2_with fail
  go_loopw [6] (fun i wr => ∃ k : Nat, k ≤ 4 ∧ i = .int .i64 (k : Int) ∧ Below w6.heap.size w6 wr ∧ Hid (∀ x ∈ (candL s.data.toList).take k, hitD s.data.toList x = false)) (fun i _ => 4 - (intOf i).toNat)
  case atStart => exact ⟨0, by omega, rfl, Below.refl _ _, fun x hx => absurd hx (by simp)⟩
  case round =>
    obtain ⟨k, hk, rfl, hD, hM⟩ := hrel
    have hXr := hXV.step hD
    have Br := BV.trans (hD.mono BV.size)
    by_cases hlt : k < 4
    · have hlt' : (k : Int) < 4 := by omega
      have hk0 : (0 : Int) ≤ k := by omega
      obtain ⟨d, hd⟩ : ∃ d, (candL s.data.toList)[k]? = some d := ⟨_, List.getElem?_eq_getElem (by rw [HN.out]; exact hlt)⟩
      have HD := Lib.hid hd
      obtain ⟨x0, x1, x2⟩ := flat_at hd
      have c0 := (hD.cell (p := ⟨g6, k * 3, none⟩) hg61).trans (own_cell HV.out x0)
      have c1 := (hD.cell (p := ⟨g6, k * 3 + 1, none⟩) hg61).trans (own_cell HV.out x1)
      have c2 := (hD.cell (p := ⟨g6, k * 3 + 2, none⟩) hg61).trans (own_cell HV.out x2)
      clear hd x0 x1 x2
      by_cases hs0 : s.data.toList = []
      · have hs1 : (s.toList != []) = false := by rw [Lib.toList_data, hs0]; rfl
        have hs2 : (s.toList == []) = true := by rw [Lib.toList_data, hs0]; rfl
        have HQ : Hid (∀ x ∈ (candL s.data.toList).take (k + 1), hitD s.data.toList x = false) := fun x _ => by rw [hs0]; rfl
        clear hs0
        go_wp2_with fail
        exact ⟨⟨k + 1, by omega, by go_num, hD, HQ⟩, by simp [intOf]; omega⟩
      · have hs1 : (s.toList != []) = true := bne_iff_ne.2 (by rw [Lib.toList_data]; exact hs0)
        have hs2 : (s.toList == []) = false := beq_eq_false_iff_ne.2 (by rw [Lib.toList_data]; exact hs0)
        have HS0 := Lib.hid hs0
        clear hs0
        go_wp2_with fail
        go_at_call 12
        refine (spec_DeedText d _).mono ?_
        rintro e w5 ⟨rfl, hb5⟩
        have d0 := (hb5.cell (p := ⟨g6, k * 3, none⟩) (by have := hD.size; show g6 < _; omega)).trans c0
        have d1 := (hb5.cell (p := ⟨g6, k * 3 + 1, none⟩) (by have := hD.size; show g6 < _; omega)).trans c1
        have d2 := (hb5.cell (p := ⟨g6, k * 3 + 2, none⟩) (by have := hD.size; show g6 < _; omega)).trans c2
        have hX5 := hXr.step hb5
        have B5 := Br.trans (hb5.mono Br.size)
        obtain ⟨tx, ex⟩ : ∃ t : ByteArray, (⟨(deedL d).toArray⟩ : ByteArray) = t := ⟨_, rfl⟩
        have lx : tx.data.toList = deedL d := by rw [← ex]
        unfold strV
        rw [ex]
        clear ex c0 c1 c2
        by_cases hq : tx.data.toList = s.data.toList
        · have hq' := ba_same hq
          have r0 := hX5.cell 0 rfl
          have r1 := hX5.cell 1 rfl
          have r2 := hX5.cell 2 rfl
          have f0 := hX5.frozen 0
          have f1 := hX5.frozen 1
          have f2 := hX5.frozen 2
          obtain ⟨t0, t1, t2, tb⟩ := hX5.set3 (.int .i64 d.k) (.int .i64 d.a) (.int .i64 d.b)
          have HR : Hid (readD s.data.toList = some d) := by
            show _ = _
            rw [← cand_read]
            exact find_at HD.out (hit_iff.2 ⟨HS0.out, by rw [← lx]; exact hq⟩) hM.out
          clear hq
          go_wp2_with fail
          generalize ((w5.setCell ⟨w.heap.size, 0, none⟩ (.int .i64 d.k)).setCell ⟨w.heap.size, 1, none⟩ (.int .i64 d.a)).setCell ⟨w.heap.size, 2, none⟩ (.int .i64 d.b) = V5 at t0 t1 t2 tb ⊢
          refine bodyPost_ret (v := .tuple #[.agg #[.int .i64 d.k, .int .i64 d.a, .int .i64 d.b], .bool true]) (by simp [results, Tryd.results16, go_sem, t0, t1, t2]) rfl ?_
          exact ⟨tb, by rw [HR.out]; rfl⟩
        · have hq' := ba_ne hq
          have HQ : Hid (∀ x ∈ (candL s.data.toList).take (k + 1), hitD s.data.toList x = false) := take_hit HD.out (by
            cases e : hitD s.data.toList d with
            | false => rfl
            | true => exact absurd ((lx.trans (hit_iff.1 e).2)) hq) hM.out
          clear hq
          go_wp2_with fail
          refine ⟨⟨_, _, _, _, _, _, _, _, _, _, _, _, _, _, _, _, _, _, _, _, _, _, _, ⟨k + 1, by omega, ?u, hD.trans (hb5.mono hD.size), HQ⟩, rfl⟩, ?m⟩
          case u => go_num
          case m => simp [intOf]; omega
    · have hlt' : ¬ (k : Int) < 4 := by omega
      have r0 := hXr.cell 0 rfl
      have r1 := hXr.cell 1 rfl
      have r2 := hXr.cell 2 rfl
      have f0 := hXr.frozen 0
      have f1 := hXr.frozen 1
      have f2 := hXr.frozen 2
      obtain ⟨t0, t1, t2, tb⟩ := hXr.set3 (.int .i64 0) (.int .i64 0) (.int .i64 0)
      have HR : Hid (readD s.data.toList = none) := by
        show _ = _
        rw [← cand_read, List.find?_eq_none]
        intro x hx
        rw [hM.out x (by rw [List.take_of_length_le (by have := HN.out; omega)]; exact hx)]; simp
      go_wp2_with fail
      generalize ((wr.setCell ⟨w.heap.size, 0, none⟩ (.int .i64 0)).setCell ⟨w.heap.size, 1, none⟩ (.int .i64 0)).setCell ⟨w.heap.size, 2, none⟩ (.int .i64 0) = V5 at t0 t1 t2 tb ⊢
      refine bodyPost_ret (v := .tuple #[.agg #[.int .i64 0, .int .i64 0, .int .i64 0], .bool false]) (by simp [results, Tryd.results16, go_sem, t0, t1, t2]) rfl ?_
      exact ⟨tb, by rw [HR.out]; rfl⟩
set_option maxRecDepth 100000 in
set_option maxHeartbeats 8000000 in
theorem sread_three (s : ByteArray) (hs : s.size ≤ 1099511627776) {u v t : List UInt8} (hc : cutL 32 s.data.toList = [u, v, t]) (w : World) : Calls Tryd.prog 16 #[.string s] w (ReadOf (readD s.data.toList) w) := by
  obtain ⟨i0, hi, hz0, hz1, hz2⟩ := info_parts infoDeed
  have HI := Lib.hid hi
  have HZ0 := Lib.hid hz0
  have HZ1 := Lib.hid hz1
  have HZ2 := Lib.hid hz2
  have hX := BoxN.start w #[.int .i64 0, .int .i64 0, .int .i64 0] 24
  have bX := hX.below
  have bX1 : w.heap.size + 1 ≤ (w.alloc (.cells #[.int .i64 0, .int .i64 0, .int .i64 0] 24)).heap.size := by simp
  clear hi hz0 hz1 hz2
  go_enter Tryd.func16, Tryd.ntmps16
  go_wp2_with fail
  generalize w.alloc (.cells #[.int .i64 0, .int .i64 0, .int .i64 0] 24) = W at hX bX bX1 ⊢
  go_at_call 41
  refine (l1Cut_any s hs _).mono ?_
  rintro e w1 ⟨hb1, vw, rfl, hown⟩
  have hX1 := hX.step hb1
  have B1 := bX.trans (hb1.mono bX.size)
  have hownL : (w1.alloc (.cells #[.int .i64 2, .int .i64 0, .int .i64 0, .int .i64 4, .int .i64 0, .int .i64 0] 24)).ownsRow w1.heap.size 24 3 (.slice (some ⟨w1.heap.size, 0, none⟩) 2 2) 2 [.int .i64 2, .int .i64 0, .int .i64 0, .int .i64 4, .int .i64 0, .int .i64 0] := World.ownsRow_lit (base := w1.heap.size) (e := 24) (size := 3) w1 #[.int .i64 2, .int .i64 0, .int .i64 0, .int .i64 4, .int .i64 0, .int .i64 0] 2 (Nat.le_refl _) (by decide) rfl
  have hbL := (Below.refl w1.heap.size w1).alloc (Nat.le_refl _) (.cells #[.int .i64 2, .int .i64 0, .int .i64 0, .int .i64 4, .int .i64 0, .int .i64 0] 24)
  have hX2 := hX1.step hbL
  have B2 := B1.trans (hbL.mono B1.size)
  have hsL : w1.heap.size < (w1.alloc (.cells #[.int .i64 2, .int .i64 0, .int .i64 0, .int .i64 4, .int .i64 0, .int .i64 0] 24)).heap.size := by simp
  clear hX
  have hcand : candL s.data.toList = [⟨2, 0, 0⟩, ⟨4, 0, 0⟩, ⟨3, digI v, digI t⟩] := by
    unfold candL; rw [hc]
  rw [hc] at hown
  have hwl : ∀ x ∈ cutL 32 s.data.toList, x.length ≤ 1099511627776 := fun x hx => Nat.le_trans (cut_word hx) hs
  have hvl : v.length ≤ 1099511627776 := hwl v (by rw [hc]; simp)
  have htl : t.length ≤ 1099511627776 := hwl t (by rw [hc]; simp)
  obtain ⟨g, cap, rfl, hg0, hg1, hg2⟩ := own_val hown (by simp)
  have y1 := own_cell hown (j := 1) (x := strV v) rfl
  have y2 := own_cell hown (j := 2) (x := strV t) rfl
  obtain ⟨tv, ev⟩ : ∃ b : ByteArray, (⟨v.toArray⟩ : ByteArray) = b := ⟨_, rfl⟩
  have lv : tv.data.toList = v := by rw [← ev]
  have DV := digits_any tv (by rw [size_data, lv]; omega)
  rw [lv] at DV
  unfold strV at y1
  rw [ev] at y1
  obtain ⟨tt, et⟩ : ∃ b : ByteArray, (⟨t.toArray⟩ : ByteArray) = b := ⟨_, rfl⟩
  have lt : tt.data.toList = t := by rw [← et]
  have DT := digits_any tt (by rw [size_data, lt]; omega)
  rw [lt] at DT
  unfold strV at y2
  rw [et] at y2
  obtain ⟨q2, hq2⟩ : ∃ q, digI t = q := ⟨_, rfl⟩
  rw [hq2] at DT hcand
  obtain ⟨q, hq⟩ : ∃ q, digI v = q := ⟨_, rfl⟩
  rw [hq] at DV hcand
  have HLC := Lib.hid hcand
  have z1 := (hbL.cell (p := ⟨g, 1, none⟩) hg1).trans y1
  have z2 := (hbL.cell (p := ⟨g, 2, none⟩) hg1).trans y2
  clear hown hcand hq hc ev lv y1 hwl hq2 et lt y2
  go_wp2_with fail
  generalize w1.alloc (.cells #[.int .i64 2, .int .i64 0, .int .i64 0, .int .i64 4, .int .i64 0, .int .i64 0] 24) = W2 at hownL hbL hX2 B2 hsL z1 z2 ⊢
  have S0 : (fun w' => w'.cell? ⟨g, 1, none⟩ = some (.string tv) ∧ w'.cell? ⟨g, 2, none⟩ = some (.string tt)) W2.drew := ⟨z1, z2⟩
  refine region_plain (fuel := 13) (listed := #[false, false, false, false, false, false, false, false, false, false, false, false, false]) (fun w' => w'.cell? ⟨g, 1, none⟩ = some (.string tv) ∧ w'.cell? ⟨g, 2, none⟩ = some (.string tt)) (by kernel_rfl) (by kernel_rfl) (by kernel_rfl) ?_
  refine hold_take (i := 0) (d := 31) (v := ?vT0) (listed' := #[true, false, false, false, false, false, false, false, false, false, false, false, false]) rfl (by kernel_rfl) (by kernel_rfl) (by kernel_rfl) rfl (by rfl) (by kernel_rfl) S0 ?hT0 ?rT0
  case hT0 =>
    intro w' hSw
    obtain ⟨k0, k1⟩ := hSw
    go_simp
    try with_reducible rfl
  simp only [List.setIfInBounds_toArray, List.set_cons_zero, List.set_cons_succ]
  refine hold_take (i := 1) (d := 32) (v := ?vT1) (listed' := #[true, true, false, false, false, false, false, false, false, false, false, false, false]) rfl (by kernel_rfl) (by kernel_rfl) (by kernel_rfl) rfl (by rfl) (by kernel_rfl) S0 ?hT1 ?rT1
  case hT1 =>
    intro w' hSw
    obtain ⟨k0, k1⟩ := hSw
    go_simp
    try with_reducible rfl
  simp only [List.setIfInBounds_toArray, List.set_cons_zero, List.set_cons_succ]
  refine hold_take (i := 2) (d := 33) (v := ?vT2) (listed' := #[true, true, true, false, false, false, false, false, false, false, false, false, false]) rfl (by kernel_rfl) (by kernel_rfl) (by kernel_rfl) rfl (by rfl) (by kernel_rfl) S0 ?hT2 ?rT2
  case hT2 =>
    intro w' hSw
    obtain ⟨k0, k1⟩ := hSw
    go_simp
    try with_reducible rfl
  simp only [List.setIfInBounds_toArray, List.set_cons_zero, List.set_cons_succ]
  refine hold_take (i := 3) (d := 34) (v := ?vT3) (listed' := #[true, true, true, true, false, false, false, false, false, false, false, false, false]) rfl (by kernel_rfl) (by kernel_rfl) (by kernel_rfl) rfl (by rfl) (by kernel_rfl) S0 ?hT3 ?rT3
  case hT3 =>
    intro w' hSw
    obtain ⟨k0, k1⟩ := hSw
    go_simp
    try with_reducible rfl
  simp only [List.setIfInBounds_toArray, List.set_cons_zero, List.set_cons_succ]
  refine hold_take (i := 5) (d := 36) (v := ?vT5) (listed' := #[true, true, true, true, false, true, false, false, false, false, false, false, false]) rfl (by kernel_rfl) (by kernel_rfl) (by kernel_rfl) rfl (by rfl) (by kernel_rfl) S0 ?hT5 ?rT5
  case hT5 =>
    intro w' hSw
    obtain ⟨k0, k1⟩ := hSw
    go_simp
    try with_reducible rfl
  simp only [List.setIfInBounds_toArray, List.set_cons_zero, List.set_cons_succ]
  refine hold_take (i := 6) (d := 37) (v := ?vT6) (listed' := #[true, true, true, true, false, true, true, false, false, false, false, false, false]) rfl (by kernel_rfl) (by kernel_rfl) (by kernel_rfl) rfl (by rfl) (by kernel_rfl) S0 ?hT6 ?rT6
  case hT6 =>
    intro w' hSw
    obtain ⟨k0, k1⟩ := hSw
    go_simp
    try with_reducible rfl
  simp only [List.setIfInBounds_toArray, List.set_cons_zero, List.set_cons_succ]
  refine hold_take (i := 7) (d := 38) (v := ?vT7) (listed' := #[true, true, true, true, false, true, true, true, false, false, false, false, false]) rfl (by kernel_rfl) (by kernel_rfl) (by kernel_rfl) rfl (by rfl) (by kernel_rfl) S0 ?hT7 ?rT7
  case hT7 =>
    intro w' hSw
    obtain ⟨k0, k1⟩ := hSw
    go_simp
    try with_reducible rfl
  simp only [List.setIfInBounds_toArray, List.set_cons_zero, List.set_cons_succ]
  refine hold_call (i := 4) (d := 35) (listed' := #[true, true, true, true, true, true, true, true, false, false, false, false, false]) rfl (by kernel_rfl) rfl (by rfl) (by kernel_rfl) ?heT4 (DV _) ?hcT4
  case heT4 => (go_simp; try rfl)
  rintro e x4 ⟨rfl, rfl⟩
  refine ⟨_, rfl, S0, ?_⟩
  simp only [List.setIfInBounds_toArray, List.set_cons_zero, List.set_cons_succ]
  refine hold_call (i := 8) (d := 39) (listed' := #[true, true, true, true, true, true, true, true, true, false, false, false, false]) rfl (by kernel_rfl) rfl (by rfl) (by kernel_rfl) ?heT8 (DT _) ?hcT8
  case heT8 => (go_simp; try rfl)
  rintro e x8 ⟨rfl, rfl⟩
  refine ⟨_, rfl, S0, ?_⟩
  simp only [List.setIfInBounds_toArray, List.set_cons_zero, List.set_cons_succ]
  refine hold_take (i := 9) (d := 40) (v := ?vT9) (listed' := #[true, true, true, true, true, true, true, true, true, true, false, false, false]) rfl (by kernel_rfl) (by kernel_rfl) (by kernel_rfl) rfl (by rfl) (by kernel_rfl) S0 ?hT9 ?rT9
  case hT9 =>
    intro w' hSw
    obtain ⟨k0, k1⟩ := hSw
    go_simp
    try with_reducible rfl
  simp only [List.setIfInBounds_toArray, List.set_cons_zero, List.set_cons_succ]
  have S1 : (fun w' => w'.cell? ⟨g, 1, none⟩ = some (.string tv) ∧ w'.cell? ⟨g, 2, none⟩ = some (.string tt)) (W2.drew.alloc (.cells #[.int .i64 3, .int .i64 q, .int .i64 q2] 24)) := ⟨((Chg.alloc (fun _ => False) W2.drew _).at_cell (fun h => h) S0.1), ((Chg.alloc (fun _ => False) W2.drew _).at_cell (fun h => h) S0.2)⟩
  refine hold_value (i := 10) (d := 41) (listed' := #[true, true, true, true, true, true, true, true, true, true, true, false, false]) rfl (by kernel_rfl) rfl (by rfl) (by kernel_rfl) (v := .slice (some ⟨W2.drew.heap.size, 0, none⟩) 1 1) (w' := W2.drew.alloc (.cells #[.int .i64 3, .int .i64 q, .int .i64 q2] 24)) ?hvT10 S1 ?_
  case hvT10 =>
    go_simp
    try with_reducible rfl
  simp only [List.setIfInBounds_toArray, List.set_cons_zero, List.set_cons_succ]
  have hown2 : (W2.drew.alloc (.cells #[.int .i64 3, .int .i64 q, .int .i64 q2] 24)).ownsRow w1.heap.size 24 3 (.slice (some ⟨w1.heap.size, 0, none⟩) 2 2) 2 [.int .i64 2, .int .i64 0, .int .i64 0, .int .i64 4, .int .i64 0, .int .i64 0] := (Chg.alloc (fun _ => False) W2.drew _).own (ownsRow_below hownL (Below.refl _ W2).drew (Nat.le_refl _)) (fun _ _ h => h)
  have hsz9 : w1.heap.size ≤ (W2.drew.alloc (.cells #[.int .i64 3, .int .i64 q, .int .i64 q2] 24)).heap.size := by have e : W2.drew.heap.size = W2.heap.size := rfl; simp; omega
  refine hold_append (k := 11) (d := 42) (listed' := #[true, true, true, true, true, true, true, true, true, true, true, true, false]) rfl (by kernel_rfl) rfl (by kernel_rfl) rfl (.tmp 31) (.tmp 41) 32 rfl (w1.heap.size) 24 i0 (.agg #[.int .i64 0, .int .i64 0, .int .i64 0]) 3 24 Tryd.underlying32 HI.out HZ0.out HZ1.out HZ2.out rfl (by decide) (.slice (some ⟨w1.heap.size, 0, none⟩) 2 2) 2 _ (by simp [Act.eval]) hown2 ⟨W2.drew.heap.size, 0, none⟩ 1 1 [.int .i64 3, .int .i64 q, .int .i64 q2] (by simp [Act.eval]) rfl (cells_new W2.drew _ [.int .i64 3, .int .i64 q, .int .i64 q2]) (by simp [Value.oneCell']) (by decide) (by decide) hsz9 ?_
  intro v6 w6 hown6 hgrow6 hat6
  have S2 : (fun w' => w'.cell? ⟨g, 1, none⟩ = some (.string tv) ∧ w'.cell? ⟨g, 2, none⟩ = some (.string tt)) w6 := ⟨hgrow6.cell S1.1 (fun e => by have e1 : g = w1.heap.size := Option.some.inj e; omega), hgrow6.cell S1.2 (fun e => by have e1 : g = w1.heap.size := Option.some.inj e; omega)⟩
  refine ⟨S2, ?_⟩
  simp only [List.setIfInBounds_toArray, List.set_cons_zero, List.set_cons_succ]
  refine hold_take (i := 12) (d := 5) (v := ?vT12) (listed' := #[true, true, true, true, true, true, true, true, true, true, true, true, true]) rfl (by kernel_rfl) (by kernel_rfl) (by kernel_rfl) rfl (by rfl) (by kernel_rfl) S2 ?hT12 ?rT12
  case hT12 =>
    intro w' hSw
    obtain ⟨k0, k1⟩ := hSw
    go_simp
    try with_reducible rfl
  simp only [List.setIfInBounds_toArray, List.set_cons_zero, List.set_cons_succ]
  refine hold_done (by kernel_rfl) ?_ _
  have bW : Below w1.heap.size W2 w6 := ((((Below.refl w1.heap.size W2).drew).alloc (by have e : W2.drew.heap.size = W2.heap.size := rfl; omega) (.cells #[.int .i64 3, .int .i64 q, .int .i64 q2] 24))).grown hgrow6 hsz9 (ownsRow_block hown2)
  have hXV : BoxN w #[.int .i64 0, .int .i64 0, .int .i64 0] 24 w6 := ⟨hX2.since.trans (bW.mono (by have := hX1.size; omega))⟩
  have BV := B2.trans (bW.mono B1.size)
  have HV : Hid (w6.ownsRow w1.heap.size 24 3 v6 3 ((candL s.data.toList).flatMap deedC)) := by
    show World.ownsRow _ _ _ _ _ _ _
    rw [HLC.out]; exact hown6
  clear hown6 hgrow6 hat6 hown2 hsz9 S0 S1 S2 z1 z2 DV DT hownL hX2 hbL
  have hnl : (candL s.data.toList).length = 3 := by have h1 := HV.out.1; have h2 := flat_len (candL s.data.toList); omega
  obtain ⟨g6, cap6, rfl, hg60, hg61, hg62⟩ := own_val HV.out (by omega)
  have HN := Lib.hid hnl
  clear hnl
  go_wp2_with fail
  go_loopw [6] (fun i wr => ∃ k : Nat, k ≤ 3 ∧ i = .int .i64 (k : Int) ∧ Below w6.heap.size w6 wr ∧ Hid (∀ x ∈ (candL s.data.toList).take k, hitD s.data.toList x = false)) (fun i _ => 3 - (intOf i).toNat)
  case atStart => exact ⟨0, by omega, rfl, Below.refl _ _, fun x hx => absurd hx (by simp)⟩
  case round =>
    obtain ⟨k, hk, rfl, hD, hM⟩ := hrel
    have hXr := hXV.step hD
    have Br := BV.trans (hD.mono BV.size)
    by_cases hlt : k < 3
    · have hlt' : (k : Int) < 3 := by omega
      have hk0 : (0 : Int) ≤ k := by omega
      obtain ⟨d, hd⟩ : ∃ d, (candL s.data.toList)[k]? = some d := ⟨_, List.getElem?_eq_getElem (by rw [HN.out]; exact hlt)⟩
      have HD := Lib.hid hd
      obtain ⟨x0, x1, x2⟩ := flat_at hd
      have c0 := (hD.cell (p := ⟨g6, k * 3, none⟩) hg61).trans (own_cell HV.out x0)
      have c1 := (hD.cell (p := ⟨g6, k * 3 + 1, none⟩) hg61).trans (own_cell HV.out x1)
      have c2 := (hD.cell (p := ⟨g6, k * 3 + 2, none⟩) hg61).trans (own_cell HV.out x2)
      clear hd x0 x1 x2
      by_cases hs0 : s.data.toList = []
      · have hs1 : (s.toList != []) = false := by rw [Lib.toList_data, hs0]; rfl
        have hs2 : (s.toList == []) = true := by rw [Lib.toList_data, hs0]; rfl
        have HQ : Hid (∀ x ∈ (candL s.data.toList).take (k + 1), hitD s.data.toList x = false) := fun x _ => by rw [hs0]; rfl
        clear hs0
        go_wp2_with fail
        exact ⟨⟨k + 1, by omega, by go_num, hD, HQ⟩, by simp [intOf]; omega⟩
      · have hs1 : (s.toList != []) = true := bne_iff_ne.2 (by rw [Lib.toList_data]; exact hs0)
        have hs2 : (s.toList == []) = false := beq_eq_false_iff_ne.2 (by rw [Lib.toList_data]; exact hs0)
        have HS0 := Lib.hid hs0
        clear hs0
        go_wp2_with fail
        go_at_call 12
        refine (spec_DeedText d _).mono ?_
        rintro e w5 ⟨rfl, hb5⟩
        have d0 := (hb5.cell (p := ⟨g6, k * 3, none⟩) (by have := hD.size; show g6 < _; omega)).trans c0
        have d1 := (hb5.cell (p := ⟨g6, k * 3 + 1, none⟩) (by have := hD.size; show g6 < _; omega)).trans c1
        have d2 := (hb5.cell (p := ⟨g6, k * 3 + 2, none⟩) (by have := hD.size; show g6 < _; omega)).trans c2
        have hX5 := hXr.step hb5
        have B5 := Br.trans (hb5.mono Br.size)
        obtain ⟨tx, ex⟩ : ∃ t : ByteArray, (⟨(deedL d).toArray⟩ : ByteArray) = t := ⟨_, rfl⟩
        have lx : tx.data.toList = deedL d := by rw [← ex]
        unfold strV
        rw [ex]
        clear ex c0 c1 c2
        by_cases hq : tx.data.toList = s.data.toList
        · have hq' := ba_same hq
          have r0 := hX5.cell 0 rfl
          have r1 := hX5.cell 1 rfl
          have r2 := hX5.cell 2 rfl
          have f0 := hX5.frozen 0
          have f1 := hX5.frozen 1
          have f2 := hX5.frozen 2
          obtain ⟨t0, t1, t2, tb⟩ := hX5.set3 (.int .i64 d.k) (.int .i64 d.a) (.int .i64 d.b)
          have HR : Hid (readD s.data.toList = some d) := by
            show _ = _
            rw [← cand_read]
            exact find_at HD.out (hit_iff.2 ⟨HS0.out, by rw [← lx]; exact hq⟩) hM.out
          clear hq
          go_wp2_with fail
          generalize ((w5.setCell ⟨w.heap.size, 0, none⟩ (.int .i64 d.k)).setCell ⟨w.heap.size, 1, none⟩ (.int .i64 d.a)).setCell ⟨w.heap.size, 2, none⟩ (.int .i64 d.b) = V5 at t0 t1 t2 tb ⊢
          refine bodyPost_ret (v := .tuple #[.agg #[.int .i64 d.k, .int .i64 d.a, .int .i64 d.b], .bool true]) (by simp [results, Tryd.results16, go_sem, t0, t1, t2]) rfl ?_
          exact ⟨tb, by rw [HR.out]; rfl⟩
        · have hq' := ba_ne hq
          have HQ : Hid (∀ x ∈ (candL s.data.toList).take (k + 1), hitD s.data.toList x = false) := take_hit HD.out (by
            cases e : hitD s.data.toList d with
            | false => rfl
            | true => exact absurd ((lx.trans (hit_iff.1 e).2)) hq) hM.out
          clear hq
          go_wp2_with fail
          refine ⟨⟨_, _, _, _, _, _, _, _, _, _, _, _, _, _, _, _, _, _, _, _, _, _, _, ⟨k + 1, by omega, ?u, hD.trans (hb5.mono hD.size), HQ⟩, rfl⟩, ?m⟩
          case u => go_num
          case m => simp [intOf]; omega
    · have hlt' : ¬ (k : Int) < 3 := by omega
      have r0 := hXr.cell 0 rfl
      have r1 := hXr.cell 1 rfl
      have r2 := hXr.cell 2 rfl
      have f0 := hXr.frozen 0
      have f1 := hXr.frozen 1
      have f2 := hXr.frozen 2
      obtain ⟨t0, t1, t2, tb⟩ := hXr.set3 (.int .i64 0) (.int .i64 0) (.int .i64 0)
      have HR : Hid (readD s.data.toList = none) := by
        show _ = _
        rw [← cand_read, List.find?_eq_none]
        intro x hx
        rw [hM.out x (by rw [List.take_of_length_le (by have := HN.out; omega)]; exact hx)]; simp
      go_wp2_with fail
      generalize ((wr.setCell ⟨w.heap.size, 0, none⟩ (.int .i64 0)).setCell ⟨w.heap.size, 1, none⟩ (.int .i64 0)).setCell ⟨w.heap.size, 2, none⟩ (.int .i64 0) = V5 at t0 t1 t2 tb ⊢
      refine bodyPost_ret (v := .tuple #[.agg #[.int .i64 0, .int .i64 0, .int .i64 0], .bool false]) (by simp [results, Tryd.results16, go_sem, t0, t1, t2]) rfl ?_
      exact ⟨tb, by rw [HR.out]; rfl⟩
theorem spec_ReadDeed (s : ByteArray) (hs : s.size ≤ 1099511627776) (w : World) : Calls Tryd.prog 16 #[.string s] w (ReadOf (readD s.data.toList) w) := by
  by_cases h2 : (cutL 32 s.data.toList).length = 2
  · match e : cutL 32 s.data.toList, h2 with
    | [u, v], _ => exact sread_two s hs e w
  by_cases h3 : (cutL 32 s.data.toList).length = 3
  · match e : cutL 32 s.data.toList, h3 with
    | [u, v, t], _ => exact sread_three s hs e w
  · exact sread_other s hs h2 h3 w
end Go.Proofs.YtjofkejfldmmlaaDoor
