/- The texts of journals: the reference's, and the program's by a strings.Builder. -/
import Derived.Test.YtjofkejfldmmlaaDoorXh
import Derived.Shelf.Strings.BuilderK
namespace Go.Proofs.YtjofkejfldmmlaaDoor
open Go.RowKit Go.Deep Go.Shelf Go.Lib

def laysSb_ren : Go.Shelf.Ren := ⟨fun | 166 => 45 | 169 => 46 | 240 => 62 | 276 => 71 | n => n, fun | 0 => 0 | 3 => 3 | 4 => 4 | 5 => 5 | 9 => 9 | 20 => 20 | 37 => 22 | 70 => 72 | 72 => 74 | 75 => 76 | 80 => 79 | 127 => 102 | 164 => 106 | n => n, fun n => n⟩
theorem laysWr : Lays.n166 Tryd.prog laysSb_ren :=
  { mixed := by kernel_rfl
    f166 := Tryd.func45.trans (congrArg some (by kernel_rfl))
    f240 := Tryd.func62.trans (congrArg some (by kernel_rfl))
    f276 := Tryd.func71.trans (congrArg some (by kernel_rfl))
    t0 := Tryd.underlying0
    a0 := Tryd.isAgg0
    z0 := Tryd.sizeOf0
    v0 := Tryd.zeroValue0
    t3 := Tryd.underlying3
    a3 := Tryd.isAgg3
    z3 := Tryd.sizeOf3
    v3 := Tryd.zeroValue3
    t4 := Tryd.underlying4
    a4 := Tryd.isAgg4
    z4 := Tryd.sizeOf4
    v4 := Tryd.zeroValue4
    t9 := Tryd.underlying9
    a9 := Tryd.isAgg9
    z9 := Tryd.sizeOf9
    v9 := Tryd.zeroValue9
    t20 := Tryd.underlying20
    a20 := Tryd.isAgg20
    z20 := Tryd.sizeOf20
    v20 := Tryd.zeroValue20
    t37 := Tryd.underlying22
    a37 := Tryd.isAgg22
    z37 := Tryd.sizeOf22
    v37 := Tryd.zeroValue22
    t70 := Tryd.underlying72
    a70 := Tryd.isAgg72
    z70 := Tryd.sizeOf72
    v70 := Tryd.zeroValue72
    t72 := Tryd.underlying74
    a72 := Tryd.isAgg74
    z72 := Tryd.sizeOf74
    v72 := Tryd.zeroValue74
    t75 := Tryd.underlying76
    a75 := Tryd.isAgg76
    z75 := Tryd.sizeOf76
    v75 := Tryd.zeroValue76
    t164 := Tryd.underlying106
    a164 := Tryd.isAgg106
    z164 := Tryd.sizeOf106
    v164 := Tryd.zeroValue106 }
theorem laysSt : Lays.n169 Tryd.prog laysSb_ren :=
  { mixed := by kernel_rfl
    f169 := Tryd.func46.trans (congrArg some (by kernel_rfl))
    t0 := Tryd.underlying0
    a0 := Tryd.isAgg0
    z0 := Tryd.sizeOf0
    v0 := Tryd.zeroValue0
    t3 := Tryd.underlying3
    a3 := Tryd.isAgg3
    z3 := Tryd.sizeOf3
    v3 := Tryd.zeroValue3
    t9 := Tryd.underlying9
    a9 := Tryd.isAgg9
    z9 := Tryd.sizeOf9
    v9 := Tryd.zeroValue9
    t37 := Tryd.underlying22
    a37 := Tryd.isAgg22
    z37 := Tryd.sizeOf22
    v37 := Tryd.zeroValue22
    t70 := Tryd.underlying72
    a70 := Tryd.isAgg72
    z70 := Tryd.sizeOf72
    v70 := Tryd.zeroValue72
    t72 := Tryd.underlying74
    a72 := Tryd.isAgg74
    z72 := Tryd.sizeOf74
    v72 := Tryd.zeroValue74
    t127 := Tryd.underlying102
    a127 := Tryd.isAgg102
    z127 := Tryd.sizeOf102
    v127 := Tryd.zeroValue102 }
theorem laysEx : Builder.Extra Tryd.prog laysSb_ren :=
  { sizeBuilder := by kernel_rfl
    liesBuilder := by kernel_rfl
    t5 := Tryd.underlying5
    a5 := Tryd.isAgg5
    z5 := Tryd.sizeOf5
    v5 := Tryd.zeroValue5
    infoByte := by kernel_rfl
    cellsByte := by kernel_rfl
    sizeByte := by kernel_rfl
    neB5 := by decide }

/-- A list of deeds as it lies in memory, in old blocks. -/
def DsAt (w : World) (B : Nat) (a : Option Addr) (g o : Nat) (D : List Dd) : Prop := ∀ j d, D[j]? = some d → a = some ⟨g, o, none⟩ ∧ g < B ∧ w.cell? ⟨g, o + j * 3, none⟩ = some (.int .i64 d.k) ∧ w.cell? ⟨g, o + j * 3 + 1, none⟩ = some (.int .i64 d.a) ∧ w.cell? ⟨g, o + j * 3 + 2, none⟩ = some (.int .i64 d.b)
theorem DsAt.step {w w' : World} {B B' : Nat} {a : Option Addr} {g o : Nat} {D : List Dd} (h : DsAt w B a g o D) (hb : Below B' w w') (hB : B ≤ B') : DsAt w' B a g o D := fun j d hd => by
  obtain ⟨h1, h2, h3, h4, h5⟩ := h j d hd
  refine ⟨h1, h2, ?_, ?_, ?_⟩
  · rw [hb.cell (p := ⟨g, o + j * 3, none⟩) (by show g < _; omega)]; exact h3
  · rw [hb.cell (p := ⟨g, o + j * 3 + 1, none⟩) (by show g < _; omega)]; exact h4
  · rw [hb.cell (p := ⟨g, o + j * 3 + 2, none⟩) (by show g < _; omega)]; exact h5
theorem DsAt.up {w : World} {B B' : Nat} {a : Option Addr} {g o : Nat} {D : List Dd} (h : DsAt w B a g o D) (hB : B ≤ B') : DsAt w B' a g o D := fun j d hd => by
  obtain ⟨h1, h2, h3⟩ := h j d hd
  exact ⟨h1, by omega, h3⟩
/-- A list of one's own, as it lies. -/
theorem ds_own {w : World} {base : Nat} {v : Value} {D : List Dd} (h : w.ownsRow base 24 3 v D.length (D.flatMap deedC)) : ∃ a g cap, v = .slice a D.length cap ∧ DsAt w w.heap.size a g 0 D := by
  rcases h.2 with ⟨rfl, h0⟩ | ⟨g, cap, cur, rfl, hb, hh, hc, _⟩
  · refine ⟨none, 0, 0, by rw [h0], fun j d hd => ?_⟩
    have := (List.getElem?_eq_some_iff.1 hd).1
    omega
  · refine ⟨some ⟨g, 0, none⟩, g, cap, rfl, fun j d hd => ?_⟩
    obtain ⟨h1, h2, h3⟩ := flat_at hd
    rw [Nat.zero_add]
    exact ⟨rfl, (h.lt g rfl).2, own_cell h h1, own_cell h h2, own_cell h h3⟩
theorem deedL_len (d : Dd) : (deedL d).length ≤ 10 := by
  rcases deed_cases d with h0 | ⟨a, ha, rfl, hd⟩ | ⟨a, ha, rfl, hd⟩ | ⟨rfl, hd⟩ | ⟨a, b, ha, hb, rfl, hd⟩ | ⟨rfl, hd⟩
  · rw [h0]; simp
  · have := numL_len (n := a) (by omega); rw [hd, List.length_append]; simp; omega
  · have := numL_len (n := a) (by omega); rw [hd, List.length_append]; simp; omega
  · rw [hd]; simp
  · have h1 := numL_len ha
    have h2 := numL_len hb
    rw [hd, List.length_append, List.length_append, List.length_cons]; simp; omega
  · rw [hd]; simp
theorem linesL_take {D : List Dd} {k : Nat} {d : Dd} (h : D[k]? = some d) : linesL (D.take (k + 1)) = linesL (D.take k) ++ (deedL d ++ [10]) := by
  rw [List.take_add_one, h]
  exact linesL_snoc _ _
theorem take_text {D : List Dd} {k : Nat} {d : Dd} (h : D[k]? = some d) (hd : deedL d ≠ []) (hall : ∀ x ∈ D.take k, deedL x ≠ []) : ∀ x ∈ D.take (k + 1), deedL x ≠ [] := by
  rw [List.take_add_one, h]
  intro x hx
  rcases List.mem_append.1 hx with hx | hx
  · exact hall x hx
  · obtain rfl : x = d := by simpa using hx
    exact hd
set_option maxRecDepth 100000 in
set_option maxHeartbeats 4000000 in
theorem spec_JournalText {w : World} {a : Option Addr} {g o cap : Nat} {D : List Dd} (hD : DsAt w w.heap.size a g o D) (hn : D.length ≤ 1099511627776) :
    Calls Tryd.prog 19 #[.slice a D.length cap] w fun e w' => e = .returned (strV (jourL D)) ∧ Below w.heap.size w w' := by
  have HD := Lib.hid hD
  clear hD
  obtain ⟨n, hnn⟩ : ∃ n, D.length = n := ⟨_, rfl⟩
  have HN := Lib.hid hnn
  rw [hnn] at hn ⊢
  clear hnn
  go_enter Tryd.func19, Tryd.ntmps19
  go_wp2_with fail
  go_loopw [3, 4] (fun t i wr => ∃ (k : Nat) (X : ByteArray), k ≤ n ∧ i = .int .i64 (k : Int) ∧ t = .string X ∧ X.size ≤ 11 * k ∧ Below w.heap.size w wr ∧ Hid (X.data.toList = linesL (D.take k) ∧ ∀ x ∈ D.take k, deedL x ≠ [])) (fun _ i _ => n - (RowKit.intOf i).toNat)
  case atStart => exact ⟨0, ⟨#[]⟩, Nat.zero_le _, rfl, rfl, Nat.le_refl _, Below.refl _ _, rfl, fun x hx => absurd hx (by simp)⟩
  case round =>
    obtain ⟨k, X, hk, rfl, rfl, hX, hB, hM⟩ := hrel
    by_cases hlt : k < n
    · have hlt' : (k : Int) < n := by omega
      have hk0 : (0 : Int) ≤ k := by omega
      obtain ⟨d, hd⟩ : ∃ d, D[k]? = some d := ⟨_, List.getElem?_eq_getElem (by rw [HN.out]; exact hlt)⟩
      have HK := Lib.hid hd
      obtain ⟨rfl, hg, c0, c1, c2⟩ := (HD.out.step hB (Nat.le_refl _)) k d hd
      have hgw : g < wr.heap.size := by have := hB.size; omega
      obtain ⟨tx, ex⟩ : ∃ t : ByteArray, (⟨(deedL d).toArray⟩ : ByteArray) = t := ⟨_, rfl⟩
      have lx : tx.data.toList = deedL d := by rw [← ex]
      have sx : tx.size ≤ 10 := by rw [size_data, lx]; exact deedL_len d
      have HT := spec_DeedText d
      unfold deedV strV at HT
      rw [ex] at HT
      clear ex hd
      go_wp2_with fail
      go_at_call 12
      refine (HT _).mono ?_
      rintro e w2 ⟨rfl, b2⟩
      have d0 := (b2.cell (p := ⟨g, o + k * 3, none⟩) hgw).trans c0
      have d1 := (b2.cell (p := ⟨g, o + k * 3 + 1, none⟩) hgw).trans c1
      have d2 := (b2.cell (p := ⟨g, o + k * 3 + 2, none⟩) hgw).trans c2
      have B2 := hB.trans (b2.mono hB.size)
      clear c0 c1 c2
      by_cases he : deedL d = []
      · have he' : (tx.toList == []) = true := by rw [Lib.toList_data, lx, he]; rfl
        have HJ : Hid (jourL D = []) := jour_no (List.mem_of_getElem? HK.out) he
        clear he lx
        go_wp2_with fail
        go_returns
        exact ⟨by rw [HJ.out]; rfl, B2⟩
      · have he' : (tx.toList == []) = false := beq_eq_false_iff_ne.2 (by rw [Lib.toList_data, lx]; exact he)
        have HE := Lib.hid he
        have LX := Lib.hid lx
        clear he lx
        go_wp2_with fail
        go_at_call 12
        refine (HT _).mono ?_
        rintro e w3 ⟨rfl, b3⟩
        have B3 := B2.trans (b3.mono B2.size)
        have HS : Hid (((X ++ tx) ++ (⟨#[10]⟩ : ByteArray)).data.toList = linesL (D.take (k + 1)) ∧ ∀ x ∈ D.take (k + 1), deedL x ≠ []) := by
          show _ ∧ _
          refine ⟨?_, take_text HK.out HE.out hM.out.2⟩
          rw [app_data, app_data, hM.out.1, LX.out, linesL_take HK.out, List.append_assoc]
        have hsz : ((X ++ tx) ++ (⟨#[10]⟩ : ByteArray)).size ≤ 11 * (k + 1) := by
          rw [ByteArray.size_append, ByteArray.size_append]
          have : (⟨#[10]⟩ : ByteArray).size = 1 := rfl
          omega
        have hs1 : (X ++ tx).size ≤ 11 * k + 10 := by rw [ByteArray.size_append]; omega
        go_wp2_with fail
        exact ⟨⟨k + 1, _, by omega, by go_num, rfl, hsz, B3, HS⟩, by simp [RowKit.intOf]; omega⟩
    · have hlt' : ¬ (k : Int) < n := by omega
      have HJ : Hid (X.data.toList = jourL D) := by
        show _ = _
        have hD : D.take k = D := List.take_of_length_le (by have := HN.out; omega)
        have h3 := hM.out
        rw [hD] at h3
        rw [jour_yes h3.2]; exact h3.1
      go_wp2_with fail
      go_returns
      refine ⟨?_, hB⟩
      unfold strV
      exact congrArg (fun t => Ending.returned (.string t)) (ba_eq HJ.out)
theorem own_belowF {w w' : World} {base : Nat} {e : TypeId} {size n : Nat} {v : Value} {xs : List Value} (h : w.ownsRowF base e size v n xs) (hb : Below w.heap.size w w') : w'.ownsRowF base e size v n xs := by
  refine ⟨h.1, ?_⟩
  rcases h.2 with hn | ⟨g, cap, cur, fz, rfl, hb0, hg, rest⟩
  · exact .inl hn
  · exact .inr ⟨g, cap, cur, fz, rfl, hb0, (hb.block g (Array.getElem?_eq_some_iff.1 hg).1).trans hg, rest⟩
theorem build_at {T e : TypeId} {B b : Nat} {p : Value} {bs : List Value} {w w' : World} (h : BuilderAtF T e B b p bs w) (hb : Below w.heap.size w w') : BuilderAtF T e B b p bs w' := by
  have hl := h.lt
  obtain ⟨hB, v, hbk, hown, hne⟩ := h
  exact ⟨hB, v, (hb.block b hl).trans hbk, own_belowF hown hb, hne⟩
theorem build_below {T e : TypeId} {B b : Nat} {bs : List Value} {w w' : World} (h : IsBuilderF T e B b bs w) (hb : Below w.heap.size w w') : IsBuilderF T e B b bs w' := h.elim (fun x => .inl (build_at x hb)) (fun x => .inr (build_at x hb))
theorem cells_len (l : List UInt8) : (Lib.byteCells l).length = l.length := by simp [Lib.byteCells]
theorem cells_str (s : ByteArray) : Lib.strCells s = Lib.byteCells s.data.toList := by
  unfold Lib.strCells Lib.byteCells
  rfl
theorem cells_app (a b : List UInt8) : Lib.byteCells (a ++ b) = Lib.byteCells a ++ Lib.byteCells b := by simp [Lib.byteCells]
set_option maxRecDepth 100000 in
set_option maxHeartbeats 4000000 in
theorem JournalText_any {w : World} {a : Option Addr} {g o cap : Nat} {D : List Dd} (hD : DsAt w w.heap.size a g o D) (hn : D.length ≤ 1099511627776) :
    Calls Tryd.prog 18 #[.slice a D.length cap] w fun e w' => e = .returned (strV (jourL D)) ∧ Below w.heap.size w w' := by
  have hF := IsBuilderF.of (Lib.fresh_isBuilder 74 5 w)
  have hb0 := (Below.refl w.heap.size w).alloc (Nat.le_refl _) (.cells #[.pointer none, .slice none 0 0] 74)
  have HD := Lib.hid hD
  clear hD
  obtain ⟨n, hnn⟩ : ∃ n, D.length = n := ⟨_, rfl⟩
  have HN := Lib.hid hnn
  rw [hnn] at hn ⊢
  clear hnn
  go_enter Tryd.func18, Tryd.ntmps18
  go_wp2_with fail
  generalize w.alloc (.cells #[.pointer none, .slice none 0 0] 74) = W at hF hb0 ⊢
  go_loopw [9] (fun i wr => ∃ (k : Nat) (X : List UInt8), k ≤ n ∧ i = .int .i64 (k : Int) ∧ X.length ≤ 11 * k ∧ IsBuilderF 74 5 w.heap.size w.heap.size (Lib.byteCells X) wr ∧ Below w.heap.size w wr ∧ Hid (X = linesL (D.take k) ∧ ∀ x ∈ D.take k, deedL x ≠ [])) (fun i _ => n - (RowKit.intOf i).toNat)
  case atStart => exact ⟨0, [], Nat.zero_le _, rfl, Nat.le_refl _, hF, hb0, rfl, fun x hx => absurd hx (by simp)⟩
  case round =>
    obtain ⟨k, X, hk, rfl, hX, hI, hB, hM⟩ := hrel
    by_cases hlt : k < n
    · have hlt' : (k : Int) < n := by omega
      have hk0 : (0 : Int) ≤ k := by omega
      obtain ⟨d, hd⟩ : ∃ d, D[k]? = some d := ⟨_, List.getElem?_eq_getElem (by rw [HN.out]; exact hlt)⟩
      have HK := Lib.hid hd
      obtain ⟨rfl, hg, c0, c1, c2⟩ := (HD.out.step hB (Nat.le_refl _)) k d hd
      obtain ⟨tx, ex⟩ : ∃ t : ByteArray, (⟨(deedL d).toArray⟩ : ByteArray) = t := ⟨_, rfl⟩
      have lx : tx.data.toList = deedL d := by rw [← ex]
      have sx : tx.size ≤ 10 := by rw [size_data, lx]; exact deedL_len d
      have HT := DeedText_any d
      unfold deedV strV at HT
      rw [ex] at HT
      have Y := BoxN.start wr #[.int .i64 d.k, .int .i64 d.a, .int .i64 d.b] 24
      have hI1 := build_below hI Y.below
      have B1 := hB.trans (Y.below.mono hB.size)
      clear ex hd
      go_wp2_with fail
      generalize wr.alloc (.cells #[.int .i64 d.k, .int .i64 d.a, .int .i64 d.b] 24) = V at Y hI1 B1 ⊢
      go_at_call 11
      refine (HT _).mono ?_
      rintro e w2 ⟨rfl, b2⟩
      have hI2 := build_below hI1 b2
      have B2 := B1.trans (b2.mono B1.size)
      clear c0 c1 c2 Y
      by_cases he : deedL d = []
      · have he' : (tx.toList == []) = true := by rw [Lib.toList_data, lx, he]; rfl
        have HJ : Hid (jourL D = []) := jour_no (List.mem_of_getElem? HK.out) he
        clear he lx
        go_wp2_with fail
        go_returns
        exact ⟨by rw [HJ.out]; rfl, B2⟩
      · have he' : (tx.toList == []) = false := beq_eq_false_iff_ne.2 (by rw [Lib.toList_data, lx]; exact he)
        have HE := Lib.hid he
        have LX := Lib.hid lx
        have hsz : (tx ++ (⟨#[10]⟩ : ByteArray)).size ≤ 11 := by
          rw [ByteArray.size_append]
          have : (⟨#[10]⟩ : ByteArray).size = 1 := rfl
          omega
        have hlen : (Lib.byteCells X).length ≤ 11 * k := by rw [cells_len]; exact hX
        have HS : Hid (X ++ (tx ++ (⟨#[10]⟩ : ByteArray)).data.toList = linesL (D.take (k + 1)) ∧ ∀ x ∈ D.take (k + 1), deedL x ≠ []) := by
          show _ ∧ _
          refine ⟨?_, take_text HK.out HE.out hM.out.2⟩
          rw [app_data, hM.out.1, LX.out, linesL_take HK.out]
        have hX2 : (X ++ (tx ++ (⟨#[10]⟩ : ByteArray)).data.toList).length ≤ 11 * (k + 1) := by
          rw [List.length_append, ← size_data]; omega
        clear he lx
        go_wp2_with fail
        go_at_call 45
        refine (Any.Builder_WriteString_k laysWr laysEx w.heap.size w.heap.size (Lib.byteCells X) (tx ++ (⟨#[10]⟩ : ByteArray)) _ hI2 (by omega) B2.size).mono ?_
        rintro e w3 ⟨rfl, hA3, b3, _⟩
        have hI3 : Hid (IsBuilderF 74 5 w.heap.size w.heap.size (Lib.byteCells (X ++ (tx ++ (⟨#[10]⟩ : ByteArray)).data.toList)) w3) := by
          show IsBuilderF _ _ _ _ _ _
          rw [cells_app, ← cells_str]
          exact .inr hA3
        have B3 := B2.trans (b3.mono (Nat.le_refl _))
        clear hA3
        go_wp2_with fail
        exact ⟨⟨k + 1, _, by omega, by go_num, hX2, hI3.out, B3, HS⟩, by simp [RowKit.intOf]; omega⟩
    · have hlt' : ¬ (k : Int) < n := by omega
      have HJ : Hid (X = jourL D) := by
        show _ = _
        have hD : D.take k = D := List.take_of_length_le (by have := HN.out; omega)
        have h3 := hM.out
        rw [hD] at h3
        rw [jour_yes h3.2]; exact h3.1
      go_wp2_with fail
      go_at_call 46
      refine (Any.Builder_String_any_k laysSt laysEx w.heap.size w.heap.size X _ hI hB.size).mono ?_
      rintro e w3 ⟨rfl, _, b3, _⟩
      go_wp2_with fail
      go_returns
      exact ⟨by rw [← HJ.out]; rfl, hB.trans (b3.mono (Nat.le_refl _))⟩
end Go.Proofs.YtjofkejfldmmlaaDoor
