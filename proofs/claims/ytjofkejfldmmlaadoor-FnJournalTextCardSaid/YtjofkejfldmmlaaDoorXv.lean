/- The draw of JournalText; the law of JournalText over what is drawn, walked at whatever code. -/
import Derived.Test.YtjofkejfldmmlaaDoorXu
import Derived.Test.YtjofkejfldmmlaaDoorXz
import Derived.Test.YtjofkejfldmmlaaDoorLe
namespace Go.Proofs.YtjofkejfldmmlaaDoor
open Go.RowKit Go.Deep

/-- A list of deeds drawn of a code. -/
def DrewJ (w : World) (e : Ending) (w' : World) : Prop :=
  ∃ (D : List Dd) (v : Value), e = .returned v ∧ w'.ownsRow w.heap.size 24 3 v D.length (D.flatMap deedC) ∧ D.length ≤ 6 ∧ Below w.heap.size w w'
set_option maxRecDepth 100000 in
set_option maxHeartbeats 4000000 in
theorem draw_JournalText {A : Option Addr} {b o n cap : Nat} {z : Nat → Nat} {w : World} (h : CodeAt w A b o n cap z) :
    Calls Tryd.prog 17 #[.slice A n cap] w (DrewJ w) := by
  obtain ⟨i0, hi, hz0, hz1, hz2⟩ := info_parts infoDeed
  have HI := Lib.hid hi
  have HZ0 := Lib.hid hz0
  have HZ1 := Lib.hid hz1
  have HZ2 := Lib.hid hz2
  clear hi hz0 hz1 hz2
  go_enter Tryd.func17, Tryd.ntmps17
  go_wp2_with fail
  go_at_call 30
  refine (l20Open_any h).mono ?_
  rintro e w1 ⟨A1, b1, o1, n1, c1, z1, rfl, hn1, hR, hz, hb, hs⟩
  have hs' : w.heap.size < w1.heap.size := by omega
  have HZ := Lib.hid hz
  have HBY : ∀ {wx : World}, Chg (fun j => j = w.heap.size) w1 wx → BytesAt wx (w.heap.size) A1 b1 o1 n1 z1 := fun hG => HZ.out.below (hG.below (by omega) (fun j hj => by have hj' : j = w.heap.size := hj; omega))
  have HF : ∀ {D : List Dd} {v : Value} {W : World} {p : Nat}, D.length ≤ 6 → DLs w1 w.heap.size A1 n1 c1 p D v W → DrewJ w (.returned v) W := fun hl hd =>
    ⟨_, _, rfl, own_less hd.own (by omega), hl, hb.trans (hd.old.below (by omega) (fun j hj => by have hj' : j = w.heap.size := hj; omega))⟩
  clear h
  go_wp2_with fail
  go_at_call 43
  refine (l20Written_any (by omega) hn1 hR hz (Nat.le_refl _) hs').mono ?_
  rintro e w2 ⟨D, v, p2, rfl, hown, hDl, hAll, hp2, hR2, hC2⟩
  have hL2 : DLs w1 w.heap.size A1 n1 c1 p2 D v w2 := ⟨hown, hR2, hC2, hs'⟩
  clear hz hR hown hR2 hC2 hAll
  go_wp2_with fail
  go_at_call 44
  refine (odd_any (q := 12) (by omega) (by omega) (by omega) hn1 hL2.rd (HBY hL2.old) (Nat.le_refl _)).mono ?_
  rintro e w3 ⟨⟨xo, rfl⟩, R3, O3⟩
  have hL3 := hL2.chg (Chg.of_only O3) R3
  clear hL2 R3 O3
  cases xo with
  | false =>
    have HX := Lib.hid (HF (by omega) hL3)
    clear hL3
    go_wp2_with fail
    go_returns
    exact HX.out
  | true =>
    have hown := hL3.own
    have szw := hL3.old.size
    have HNW := cells_new w3 24 [.int .i64 9, .int .i64 0, .int .i64 0]
    go_wp2_with (at_builtin; refine wpList_append_own _ rfl _ _ 32 rfl w1.heap.size 24 i0 (.agg #[.int .i64 0, .int .i64 0, .int .i64 0]) 3 24 Tryd.underlying32 HI.out HZ0.out HZ1.out HZ2.out rfl (by decide) _ _ _ rfl (hown.alloc _) ⟨w3.heap.size, 0, none⟩ 1 1 [.int .i64 9, .int .i64 0, .int .i64 0] rfl rfl HNW ?c2 ?c3 ?c4 ?c5 ?_)
    case c2 => simp [Value.oneCell']
    case c3 => unfold maxLen; omega
    case c4 => omega
    case c5 => simp; omega
    intro v' w4 hown4 hgrow _
    try rw [show w.heap.size + 1 = w1.heap.size by omega] at hown4
    have HX := Lib.hid (HF (by rw [List.length_append, List.length_singleton]; omega) (hL3.grow (d := ⟨9, 0, 0⟩) hown4 hgrow))
    clear hL3 hown4 hgrow hown HNW
    go_wp2_with fail
    go_returns
    exact HX.out
set_option maxRecDepth 100000 in
set_option maxHeartbeats 4000000 in
theorem sameDeeds_any {w : World} {a a' : Option Addr} {g o g' o' cap cap' : Nat} {D : List Dd} (hD : DsAt w w.heap.size a g o D) (hD' : DsAt w w.heap.size a' g' o' D) (hn : D.length ≤ 1099511627776) :
    Calls Tryd.prog 21 #[.slice a D.length cap, .slice a' D.length cap'] w fun e w' => e = .returned (.bool true) ∧ Below w.heap.size w w' := by
  have HD := Lib.hid hD
  have HD' := Lib.hid hD'
  obtain ⟨n, hnn⟩ : ∃ n, D.length = n := ⟨_, rfl⟩
  have HN := Lib.hid hnn
  rw [hnn] at hn ⊢
  clear hnn hD hD'
  go_enter Tryd.func21, Tryd.ntmps21
  go_wp2_with fail
  go_loopw [5] (fun i wr => ∃ k : Nat, k ≤ n ∧ i = .int .i64 (k : Int) ∧ Below w.heap.size w wr) (fun i _ => n - (Go.RowKit.intOf i).toNat)
  case atStart => exact ⟨0, Nat.zero_le _, rfl, Below.refl _ _⟩
  case round =>
    obtain ⟨k, hk, rfl, hB1⟩ := hrel
    by_cases hlt : k < n
    · have hlt' : (k : Int) < n := by omega
      have hk0 : (0 : Int) ≤ k := by omega
      obtain ⟨d, hd⟩ : ∃ d, D[k]? = some d := ⟨_, List.getElem?_eq_getElem (by rw [HN.out]; exact hlt)⟩
      have HK := Lib.hid hd
      obtain ⟨rfl, hg, c0, c1, c2⟩ := (HD.out.step hB1.drew (Nat.le_refl _)) k d hd
      obtain ⟨rfl, hg', c0', c1', c2'⟩ := (HD'.out.step hB1.drew (Nat.le_refl _)) k d hd
      have e1 := deed_neq d.k d.a d.b d.k d.a d.b
      simp only [beq_self_eq_true, Bool.and_self, Bool.not_true] at e1
      clear hd
      have S0 : (fun w' => w'.cell? ⟨g, o + k * 3, none⟩ = some (.int .i64 d.k) ∧ w'.cell? ⟨g, o + k * 3 + 1, none⟩ = some (.int .i64 d.a) ∧ w'.cell? ⟨g, o + k * 3 + 2, none⟩ = some (.int .i64 d.b) ∧ w'.cell? ⟨g', o' + k * 3, none⟩ = some (.int .i64 d.k) ∧ w'.cell? ⟨g', o' + k * 3 + 1, none⟩ = some (.int .i64 d.a) ∧ w'.cell? ⟨g', o' + k * 3 + 2, none⟩ = some (.int .i64 d.b)) wr.drew := ⟨c0, c1, c2, c0', c1', c2'⟩
      clear c0 c1 c2 c0' c1' c2'
      go_wp2_with fail
      refine region_plain (fuel := 9) (listed := #[false, false, false, false, false, false, false, false, false]) (fun w' => w'.cell? ⟨g, o + k * 3, none⟩ = some (.int .i64 d.k) ∧ w'.cell? ⟨g, o + k * 3 + 1, none⟩ = some (.int .i64 d.a) ∧ w'.cell? ⟨g, o + k * 3 + 2, none⟩ = some (.int .i64 d.b) ∧ w'.cell? ⟨g', o' + k * 3, none⟩ = some (.int .i64 d.k) ∧ w'.cell? ⟨g', o' + k * 3 + 1, none⟩ = some (.int .i64 d.a) ∧ w'.cell? ⟨g', o' + k * 3 + 2, none⟩ = some (.int .i64 d.b)) (by kernel_rfl) (by kernel_rfl) (by kernel_rfl) ?_
      refine hold_take (i := 0) (d := 17) (v := ?vT0) (listed' := #[true, false, false, false, false, false, false, false, false]) rfl (by kernel_rfl) (by kernel_rfl) (by kernel_rfl) rfl (by rfl) (by kernel_rfl) S0 ?hT0 ?rT0
      case hT0 =>
        intro w' hSw
        obtain ⟨k0, k1, k2, k3, k4, k5⟩ := hSw
        go_simp
        try with_reducible rfl
      simp only [List.setIfInBounds_toArray, List.set_cons_zero, List.set_cons_succ]
      refine hold_take (i := 1) (d := 18) (v := ?vT1) (listed' := #[true, true, false, false, false, false, false, false, false]) rfl (by kernel_rfl) (by kernel_rfl) (by kernel_rfl) rfl (by rfl) (by kernel_rfl) S0 ?hT1 ?rT1
      case hT1 =>
        intro w' hSw
        obtain ⟨k0, k1, k2, k3, k4, k5⟩ := hSw
        go_simp
        try with_reducible rfl
      simp only [List.setIfInBounds_toArray, List.set_cons_zero, List.set_cons_succ]
      refine hold_take (i := 2) (d := 19) (v := ?vT2) (listed' := #[true, true, true, false, false, false, false, false, false]) rfl (by kernel_rfl) (by kernel_rfl) (by kernel_rfl) rfl (by rfl) (by kernel_rfl) S0 ?hT2 ?rT2
      case hT2 =>
        intro w' hSw
        obtain ⟨k0, k1, k2, k3, k4, k5⟩ := hSw
        go_simp
        try with_reducible rfl
      simp only [List.setIfInBounds_toArray, List.set_cons_zero, List.set_cons_succ]
      refine hold_take (i := 3) (d := 20) (v := ?vT3) (listed' := #[true, true, true, true, false, false, false, false, false]) rfl (by kernel_rfl) (by kernel_rfl) (by kernel_rfl) rfl (by rfl) (by kernel_rfl) S0 ?hT3 ?rT3
      case hT3 =>
        intro w' hSw
        obtain ⟨k0, k1, k2, k3, k4, k5⟩ := hSw
        go_simp
        try with_reducible rfl
      simp only [List.setIfInBounds_toArray, List.set_cons_zero, List.set_cons_succ]
      refine hold_take (i := 4) (d := 21) (v := ?vT4) (listed' := #[true, true, true, true, true, false, false, false, false]) rfl (by kernel_rfl) (by kernel_rfl) (by kernel_rfl) rfl (by rfl) (by kernel_rfl) S0 ?hT4 ?rT4
      case hT4 =>
        intro w' hSw
        obtain ⟨k0, k1, k2, k3, k4, k5⟩ := hSw
        go_simp
        try with_reducible rfl
      simp only [List.setIfInBounds_toArray, List.set_cons_zero, List.set_cons_succ]
      refine hold_take (i := 5) (d := 22) (v := ?vT5) (listed' := #[true, true, true, true, true, true, false, false, false]) rfl (by kernel_rfl) (by kernel_rfl) (by kernel_rfl) rfl (by rfl) (by kernel_rfl) S0 ?hT5 ?rT5
      case hT5 =>
        intro w' hSw
        obtain ⟨k0, k1, k2, k3, k4, k5⟩ := hSw
        go_simp
        try with_reducible rfl
      simp only [List.setIfInBounds_toArray, List.set_cons_zero, List.set_cons_succ]
      refine hold_take (i := 6) (d := 23) (v := ?vT6) (listed' := #[true, true, true, true, true, true, true, false, false]) rfl (by kernel_rfl) (by kernel_rfl) (by kernel_rfl) rfl (by rfl) (by kernel_rfl) S0 ?hT6 ?rT6
      case hT6 =>
        intro w' hSw
        obtain ⟨k0, k1, k2, k3, k4, k5⟩ := hSw
        go_simp
        try with_reducible rfl
      simp only [List.setIfInBounds_toArray, List.set_cons_zero, List.set_cons_succ]
      refine hold_take (i := 7) (d := 24) (v := ?vT7) (listed' := #[true, true, true, true, true, true, true, true, false]) rfl (by kernel_rfl) (by kernel_rfl) (by kernel_rfl) rfl (by rfl) (by kernel_rfl) S0 ?hT7 ?rT7
      case hT7 =>
        intro w' hSw
        obtain ⟨k0, k1, k2, k3, k4, k5⟩ := hSw
        go_simp
        try with_reducible rfl
      simp only [List.setIfInBounds_toArray, List.set_cons_zero, List.set_cons_succ]
      refine hold_take (i := 8) (d := 25) (v := ?vT8) (listed' := #[true, true, true, true, true, true, true, true, true]) rfl (by kernel_rfl) (by kernel_rfl) (by kernel_rfl) rfl (by rfl) (by kernel_rfl) S0 ?hT8 ?rT8
      case hT8 =>
        intro w' hSw
        obtain ⟨k0, k1, k2, k3, k4, k5⟩ := hSw
        go_simp
        try rfl
      simp only [List.setIfInBounds_toArray, List.set_cons_zero, List.set_cons_succ]
      refine hold_done (by kernel_rfl) ?_ _
      go_wp2_with fail
      exact ⟨⟨k + 1, by omega, by go_num, hB1.trans ((Below.refl _ wr).drew.mono hB1.size)⟩, by simp [Go.RowKit.intOf]; omega⟩
    · have hlt' : ¬ (k : Int) < n := by omega
      go_wp2_with fail
      go_ret
      exact ⟨rfl, hB1⟩
theorem linesL_le (D : List Dd) : (linesL D).length ≤ D.length * 11 := by
  induction D with
  | nil => exact Nat.le_refl _
  | cons d D ih =>
    show (((deedL d) ++ [10]) ++ linesL D).length ≤ (D.length + 1) * 11
    rw [List.length_append, List.length_append]
    have := deedL_len d
    show _ + 1 + _ ≤ _
    omega
theorem jourL_le (D : List Dd) : (jourL D).length ≤ D.length * 11 := by
  unfold jourL
  split
  · exact linesL_le D
  · exact Nat.zero_le _
theorem jourL_has {D : List Dd} (h : jourL D ≠ []) : ∀ d ∈ D, deedL d ≠ [] := fun _ hd e => h (jour_no hd e)
set_option maxRecDepth 100000 in
set_option maxHeartbeats 4000000 in
theorem law_JournalText {A : Option Addr} {b o n cap : Nat} {z : Nat → Nat} {w : World} (h : CodeAt w A b o n cap z) (hF : LibOk w) :
    Calls Tryd.prog 5 #[.slice A n cap] w fun e w' => e = .returned (.bool true) ∧ Below w.heap.size w w' := by
  have hn := h.hn
  have hc := h.hc
  by_cases hbig : 1048576 < n
  · have hbig' : (1048576 : Int) < n := by omega
    clear h hF
    go_enter Tryd.func5, Tryd.ntmps5
    go_wp2_with fail
    go_ret
    exact ⟨rfl, Below.refl _ _⟩
  have hbig' : ¬ (1048576 : Int) < n := by omega
  go_enter Tryd.func5, Tryd.ntmps5
  go_wp2_with fail
  go_at_call 17
  refine (draw_JournalText h).mono ?_
  rintro e w1 ⟨D, v, rfl, own1, hDl, b1⟩
  obtain ⟨a, g, cp, rfl, hd1⟩ := ds_own own1
  have HS := fun (w' : World) (h : DsAt w' w'.heap.size a g 0 D) => spec_JournalText (cap := cp) h (by omega)
  have HP := fun (w' : World) (h : DsAt w' w'.heap.size a g 0 D) => JournalText_any (cap := cp) h (by omega)
  have hle := jourL_le D
  obtain ⟨tx, etx⟩ : ∃ tx : ByteArray, (⟨(jourL D).toArray⟩ : ByteArray) = tx := ⟨_, rfl⟩
  have ltx : tx.data.toList = jourL D := by rw [← etx]
  have hts : tx.size ≤ 66 := by rw [size_data, ltx]; omega
  have hb9 : (tx.toList != tx.toList) = false := by simp
  unfold strV at HS HP
  rw [etx] at HS HP
  have HE := fun (w' : World) (a1 : Option Addr) (g1 c1 : Nat) (h1 : DsAt w' w'.heap.size a1 g1 0 D) (h2 : DsAt w' w'.heap.size a g 0 D) => sameDeeds_any (cap := c1) (cap' := cp) h1 h2 (by omega)
  obtain ⟨n', hn'⟩ : ∃ q, D.length = q := ⟨_, rfl⟩
  have HN := Lib.hid hn'
  rw [hn'] at HS HP HE hDl ⊢
  clear hn' own1 etx h hle
  go_wp2_with fail
  go_at_call 18
  refine (HP w1 hd1).mono ?_
  rintro e w2 ⟨rfl, b2⟩
  have B2 := b1.trans (b2.mono b1.size)
  have hd2 := (hd1.step b2 (Nat.le_refl _)).up b2.size
  go_wp2_with fail
  go_at_call 19
  refine (HS w2 hd2).mono ?_
  rintro e w3 ⟨rfl, b3⟩
  have B3 := B2.trans (b3.mono B2.size)
  have hd3 := (hd2.step b3 (Nat.le_refl _)).up b3.size
  clear HS HP hd1 hd2 b2 b3
  by_cases he : jourL D = []
  · have z0 : tx.toList.isEmpty = true := by rw [Lib.toList_data, ltx, he]; rfl
    clear ltx
    go_wp2_with fail
    go_at_call 13
    refine (alive_any _).mono ?_
    rintro e w4 ⟨rfl, b4⟩
    go_wp2_with fail
    go_ret
    exact ⟨rfl, B3.trans (b4.mono B3.size)⟩
  have z0 : tx.toList.isEmpty = false := by rw [Lib.toList_data, ltx, List.isEmpty_eq_false_iff]; exact he
  have hall := jourL_has he
  have HR := ReadJournal_any tx (by omega) (hF.e.below B3)
  unfold JourOf at HR
  have hsz : (linesL D).length = tx.size := by rw [size_data, ltx, jour_yes hall]
  rw [ltx, jour_yes hall, readJ_lines hall, hsz] at HR
  clear ltx hall he hsz
  go_wp2_with fail
  go_at_call 20
  refine HR.mono ?_
  rintro e w4 ⟨b4, v4, rfl, own4⟩
  obtain ⟨a4, g4, c4, hv4, hd4⟩ := ds_own own4
  have hv4' : v4 = .slice a4 n' c4 := by rw [hv4, HN.out]
  subst hv4'
  have B4 := B3.trans (b4.mono B3.size)
  have hd34 := (hd3.step b4 (Nat.le_refl _)).up b4.size
  clear hv4 own4 HR
  go_wp2_with fail
  go_at_call 21
  refine (HE w4 _ _ _ hd4 hd34).mono ?_
  rintro e w5 ⟨rfl, b5⟩
  go_wp2_with fail
  go_ret
  exact ⟨rfl, B4.trans (b5.mono B4.size)⟩
end Go.Proofs.YtjofkejfldmmlaaDoor
