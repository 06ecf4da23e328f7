/- The reference's reader of journals. -/
import Derived.Test.YtjofkejfldmmlaaDoorXh
namespace Go.Proofs.YtjofkejfldmmlaaDoor
open Go.RowKit Go.Deep

/-- What a reader of journals answers: deeds, a list of its own, and how many bytes they have. -/
def JourOf (x : List Dd × Nat) (w : World) (e : Ending) (w' : World) : Prop :=
  Below w.heap.size w w' ∧ ∃ v, e = .returned (.tuple #[v, .int .i64 (x.2 : Int)]) ∧ w'.ownsRow w.heap.size 24 3 v x.1.length (x.1.flatMap deedC)
theorem flat_snoc (D : List Dd) (d : Dd) : (D ++ [d]).flatMap deedC = D.flatMap deedC ++ [.int .i64 d.k, .int .i64 d.a, .int .i64 d.b] := by
  rw [List.flatMap_append]; rfl
theorem line_drop {l : List UInt8} {f k : Nat} (hf : f ≤ k) (hk : l[k]? = some 10) (hno : (10 : UInt8) ∉ (l.drop f).take (k - f)) : lineOf (l.drop f) = some ((l.drop f).take (k - f), l.drop (k + 1)) := by
  exact (congrArg lineOf (drop_split hf hk)).trans (line_at hno)
theorem no_more {s : ByteArray} {f k : Nat} {x : UInt8} {c : UInt8} (hat : s.data.toList[k]? = some c) (hc : c ≠ x) (hfk : f ≤ k) (hno : x ∉ (s.data.toList.drop f).take (k - f)) : x ∉ (s.data.toList.drop f).take (k + 1 - f) := by
  intro hm
  have e : k + 1 - f = (k - f) + 1 := by omega
  rw [e, List.take_add_one, List.getElem?_drop, show f + (k - f) = k by omega, hat] at hm
  rcases List.mem_append.1 hm with hm | hm
  · exact hno hm
  · have : x = c := by simpa using hm
    exact hc this.symm
set_option maxRecDepth 100000 in
set_option maxHeartbeats 4000000 in
theorem spec_ReadJournal (s : ByteArray) (hs : s.size ≤ 1073741824) (w : World) : Calls Tryd.prog 27 #[.string s] w (JourOf (readJ s.data.toList) w) := by
  obtain ⟨i0, hi, hz0, hz1, hz2⟩ := info_parts infoDeed
  have HI := Lib.hid hi
  have HZ0 := Lib.hid hz0
  have HZ1 := Lib.hid hz1
  have HZ2 := Lib.hid hz2
  clear hi hz0 hz1 hz2
  have own0 := World.ownsRow_made (base := w.heap.size) (e := 24) (size := 3) w #[] 0 (Nat.le_refl _) (Nat.zero_le _) rfl
  have b0 := (Below.refl w.heap.size w).alloc (Nat.le_refl _) (.cells #[] 24)
  have h63 : (s.size : Int) ≤ 9223372036854775807 := by omega
  go_enter Tryd.func27, Tryd.ntmps27
  go_wp2_with fail
  generalize w.alloc (.cells #[] 24) = W0 at own0 b0 ⊢
  go_loopw [4, 5, 6] (fun v fv kv wr => ∃ (D : List Dd) (f k : Nat), fv = .int .i64 (f : Int) ∧ kv = .int .i64 (k : Int) ∧ f ≤ k ∧ k ≤ s.size ∧ D.length ≤ k ∧ wr.ownsRow w.heap.size 24 3 v D.length (D.flatMap deedC) ∧ Below w.heap.size w wr ∧ Hid (readJ s.data.toList = (D ++ (readJ (s.data.toList.drop f)).1, f + (readJ (s.data.toList.drop f)).2) ∧ (10 : UInt8) ∉ (s.data.toList.drop f).take (k - f))) (fun _ _ kv _ => s.size - (intOf kv).toNat)
  case atStart => exact ⟨[], 0, 0, rfl, rfl, Nat.le_refl _, Nat.zero_le _, Nat.zero_le _, own0, b0, by rw [List.nil_append, List.drop_zero, Nat.zero_add], by simp⟩
  case round =>
    obtain ⟨D, f, k, rfl, rfl, hfk, hks, hDk, hown, hB, hM⟩ := hrel
    have c1 : (0 : Int) ≤ (f : Int) := by omega
    have c2 : (f : Int) ≤ (k : Int) := by omega
    have c3 : (k : Int) ≤ (s.size : Int) := by omega
    by_cases hlt : k < s.size
    · have hlt' : (k : Int) < s.size := by omega
      have hk0 : (0 : Int) ≤ k := by omega
      have hat := at_data hlt
      obtain ⟨c, hc⟩ : ∃ c, s[k] = c := ⟨_, rfl⟩
      rw [hc] at hat
      obtain ⟨x, hx⟩ : ∃ x, c.toNat = x := ⟨_, rfl⟩
      have HX := Lib.hid hx
      by_cases h10 : x = 10
      · subst h10
        have hc10 : c = 10 := UInt8.toNat_inj.1 (by rw [hx]; rfl)
        rw [hc10] at hat
        have hline := line_drop hfk hat hM.out.2
        rw [← ext_data] at hline
        have HLN := Lib.hid hline
        have hsz : (s.extract f k).size = k - f := by rw [ByteArray.size_extract]; omega
        have HR := spec_ReadDeed (s.extract f k) (by omega)
        unfold ReadOf at HR
        have HSZ := Lib.hid hsz
        cases hrd : readD (s.extract f k).data.toList with
        | none =>
          rw [hrd] at HR
          unfold deedV at HR
          simp only [Option.getD_none, Option.isSome_none] at HR
          have HF : Hid (readJ s.data.toList = (D, f)) := by
            show _ = _
            rw [hM.out.1, readJ_bad HLN.out hrd, List.append_nil]; rfl
          clear hat hc10 HX hline hsz hrd
          go_wp2_with fail
          go_at_call 16
          refine (HR wr).mono ?_
          rintro e w2 ⟨b2, rfl⟩
          have B2 := hB.trans (b2.mono hB.size)
          have hown2 := ownsRow_below hown b2 (Nat.le_refl _)
          have hb3 := (Below.refl w2.heap.size w2).alloc (Nat.le_refl _) (.cells #[.int .i64 0, .int .i64 0, .int .i64 0] 24)
          go_wp2_with fail
          go_returns
          exact ⟨B2.trans (hb3.mono B2.size), _, by rw [HF.out]; rfl, by rw [HF.out]; exact ownsRow_below hown2 hb3 (Nat.le_refl _)⟩
        | some d =>
          rw [hrd] at HR
          unfold deedV at HR
          simp only [Option.getD_some, Option.isSome_some] at HR
          have HF : Hid (readJ s.data.toList = ((D ++ [d]) ++ (readJ (s.data.toList.drop (k + 1))).1, (k + 1) + (readJ (s.data.toList.drop (k + 1))).2) ∧ (10 : UInt8) ∉ (s.data.toList.drop (k + 1)).take (k + 1 - (k + 1))) := by
            show _ ∧ _
            refine ⟨?_, by rw [Nat.sub_self]; simp⟩
            have hl : (s.extract f k).data.toList.length = k - f := HSZ.out
            rw [hM.out.1, readJ_cons HLN.out hrd, hl, List.append_assoc, List.singleton_append]
            refine Prod.ext rfl ?_
            show f + (k - f + 1 + _) = k + 1 + _
            omega
          clear hat hc10 HX hline hsz hrd
          go_wp2_with fail
          go_at_call 16
          refine (HR wr).mono ?_
          rintro e w2 ⟨b2, rfl⟩
          have B2 := hB.trans (b2.mono hB.size)
          have hown2 := ownsRow_below hown b2 (Nat.le_refl _)
          have Y := BoxN.start w2 #[.int .i64 d.k, .int .i64 d.a, .int .i64 d.b] 24
          have hown3 := ownsRow_below hown2 Y.below (Nat.le_refl _)
          have B3 := B2.trans (Y.below.mono B2.size)
          have p0 := Y.cell 0 rfl
          have p1 := Y.cell 1 rfl
          have p2 := Y.cell 2 rfl
          clear hown hown2 HR
          have HNW : ∀ j u, ([.int .i64 d.k, .int .i64 d.a, .int .i64 d.b] : List Value)[j]? = some u → ((w2.alloc (.cells #[.int .i64 d.k, .int .i64 d.a, .int .i64 d.b] 24)).alloc (.cells #[.int .i64 d.k, .int .i64 d.a, .int .i64 d.b] 24)).cell? ((⟨w2.heap.size + 1, 0, none⟩ : Addr).add j) = some u := by
            have h := cells_new (w2.alloc (.cells #[.int .i64 d.k, .int .i64 d.a, .int .i64 d.b] 24)) 24 [.int .i64 d.k, .int .i64 d.a, .int .i64 d.b]
            rw [World.size_alloc] at h
            exact h
          go_wp2_with (at_builtin; refine wpList_append_own _ rfl _ _ 32 rfl w.heap.size 24 i0 (.agg #[.int .i64 0, .int .i64 0, .int .i64 0]) 3 24 Tryd.underlying32 HI.out HZ0.out HZ1.out HZ2.out rfl (by decide) _ _ _ rfl ((Chg.alloc (fun _ => False) _ _).own hown3 (fun _ _ h => h)) ⟨w2.heap.size + 1, 0, none⟩ 1 1 [.int .i64 d.k, .int .i64 d.a, .int .i64 d.b] rfl rfl HNW ?c2 ?c3 ?c4 ?c5 ?_)
          case c2 => simp [Value.oneCell']
          case c3 => unfold maxLen; omega
          case c4 => omega
          case c5 => have := B3.size; simp at this; simp; omega
          intro v' w4 hown4 hgrow _
          have hW4 : Below w.heap.size w w4 := (B3.alloc B3.size _).grown hgrow (by have := B3.size; simp at this; simp; omega) (ownsRow_block hown3)
          have HO : Hid (w4.ownsRow w.heap.size 24 3 v' (D ++ [d]).length ((D ++ [d]).flatMap deedC)) := by
            show World.ownsRow _ _ _ _ _ _ _
            rw [List.length_append, flat_snoc]; exact hown4
          clear hown4 hgrow hown3 p0 p1 p2
          go_wp2_with fail
          go_roundw
          case rel => exact ⟨D ++ [d], k + 1, k + 1, by go_num, by go_num, Nat.le_refl _, by omega, by rw [List.length_append, List.length_singleton]; omega, HO.out, hW4, HF⟩
          case measure => simp [intOf]; omega
      · have hcx : c ≠ 10 := fun e => by subst e; exact h10 (by rw [← hx]; rfl)
        have h10' : ((x : Int) == 10) = false := beq_eq_false_iff_ne.2 (by omega)
        have HS : Hid (readJ s.data.toList = (D ++ (readJ (s.data.toList.drop f)).1, f + (readJ (s.data.toList.drop f)).2) ∧ (10 : UInt8) ∉ (s.data.toList.drop f).take (k + 1 - f)) := ⟨hM.out.1, no_more hat hcx hfk hM.out.2⟩
        clear hat HX hcx
        go_wp2_with fail
        exact ⟨⟨D, f, k + 1, rfl, by go_num, by omega, by omega, by omega, hown, hB, HS⟩, by simp [intOf]; omega⟩
    · have hlt' : ¬ (k : Int) < s.size := by omega
      have HS : Hid (readJ s.data.toList = (D, f)) := by
        show _ = _
        have h2 := hM.out.2
        have hks2 : k = s.size := by omega
        rw [List.take_of_length_le (by rw [List.length_drop, hks2]; exact Nat.le_refl _)] at h2
        rw [hM.out.1, readJ_none (line_none h2), List.append_nil]; rfl
      go_wp2_with fail
      go_returns
      exact ⟨hB, _, by rw [HS.out]; rfl, by rw [HS.out]; exact hown⟩
end Go.Proofs.YtjofkejfldmmlaaDoor
