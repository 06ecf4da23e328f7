/- The draws of lists of deeds. -/
import Derived.Test.YtjofkejfldmmlaaDoorXn
import Derived.Test.YtjofkejfldmmlaaDoorXr
import Derived.Deep.AppendLies
namespace Go.Proofs.YtjofkejfldmmlaaDoor
open Go.RowKit Go.Deep

/-- A list of deeds under way, the reader at a place; of what was there at w nothing else has turned. -/
structure DLs (w : World) (rb : Nat) (A : Option Addr) (n c p : Nat) (D : List Dd) (v : Value) (W : World) : Prop where
  own : W.ownsRow w.heap.size 24 3 v D.length (D.flatMap deedC)
  rd : Rd W rb A n c p
  old : Chg (fun j => j = rb) w W
  hrb : rb < w.heap.size
section
variable {w W W' : World} {rb n c p p' : Nat} {A : Option Addr} {D : List Dd} {v : Value}
theorem DLs.rbW (h : DLs w rb A n c p D v W) : rb < W.heap.size := Nat.lt_of_lt_of_le h.hrb h.old.size
theorem DLs.chg (h : DLs w rb A n c p D v W) (hc : Chg (fun j => j = rb) W W') (hr : Rd W' rb A n c p') : DLs w rb A n c p' D v W' :=
  ⟨hc.own h.own (fun g hg => by have := (h.own.lt g hg).1; have := h.hrb; show ¬ g = rb; omega), hr, h.old.trans hc, h.hrb⟩
theorem DLs.less (h : DLs w rb A n c p D v W) (hb : Below W.heap.size W W') : DLs w rb A n c p D v W' :=
  h.chg (Chg.of_below hb fun j hj hB => absurd hB (by omega)) ((Chg.of_below (S := fun _ => False) hb fun j hj hB => absurd hB (by omega)).rd h.rd h.rbW (fun e => e))
theorem DLs.grow {tmp : Obj} {v' : Value} {d : Dd} (h : DLs w rb A n c p D v W) (ho : W'.ownsRow w.heap.size 24 3 v' (D.length + 1) (D.flatMap deedC ++ [.int .i64 d.k, .int .i64 d.a, .int .i64 d.b])) (hg : (W.alloc tmp).grownBy W' v.ownBlock) : DLs w rb A n c p (D ++ [d]) v' W' := by
  have h1 := h.hrb
  have h2 := h.rbW
  have hl : (W.alloc tmp).heap.size = W.heap.size + 1 := by simp
  have hv : ∀ g, v.ownBlock = some g → w.heap.size ≤ g := fun g e => (h.own.lt g e).1
  have hb : ∀ j, j < W.heap.size → v.ownBlock ≠ some j → W'.heap[j]? = W.heap[j]? := fun j hj e => (hg.block j (by omega) (fun e2 => e e2.symm)).trans (Below.heap_alloc _ _ _ hj)
  refine ⟨by rw [List.length_append, flat_snoc]; exact ho, h.rd.block (hb rb h2 (fun e => by have := hv rb e; omega)), ?_, h1⟩
  refine ⟨hg.os.trans h.old.os, hg.tape.trans h.old.tape, hg.output.trans h.old.output, Nat.le_trans h.old.size (by have := hg.size; omega), fun j hj hs => (hb j (Nat.lt_of_lt_of_le hj h.old.size) (fun e => by have := hv j e; omega)).trans (h.old.block j hj hs)⟩
end
/-- A list of deeds drawn. -/
def DrawnL (rb : Nat) (A : Option Addr) (n c p q l : Nat) (w : World) (e : Ending) (w' : World) : Prop :=
  ∃ (D : List Dd) (v : Value) (p' : Nat), e = .returned v ∧ w'.ownsRow w.heap.size 24 3 v D.length (D.flatMap deedC) ∧ D.length ≤ l ∧ p' ≤ p + q ∧ Rd w' rb A n c p' ∧ Chg (fun j => j = rb) w w'
theorem own_less {w : World} {base base' : Nat} {e : TypeId} {size n : Nat} {v : Value} {xs : List Value} (h : w.ownsRow base e size v n xs) (hb : base' ≤ base) : w.ownsRow base' e size v n xs := by
  refine ⟨h.1, h.2.imp (fun h => h) ?_⟩
  rintro ⟨g, cap, cur, h1, h2, h3⟩
  exact ⟨g, cap, cur, h1, Nat.le_trans hb h2, h3⟩

set_option maxRecDepth 100000 in
set_option maxHeartbeats 4000000 in
theorem l20Deeds_any {rb n c p k nc : Nat} {A ua na : Option Addr} {un uc : Nat} {B b o : Nat} {z0 : Nat → Nat} {w : World} (hk : k ≤ 1000) (hp : p ≤ 5000) (hn : n ≤ 2000) (h : Rd w rb A n c p) (hz : BytesAt w B A b o n z0) (hB : B ≤ rb) (hrb : rb < w.heap.size) :
    Calls Tryd.prog 61 #[.pointer (some ⟨rb, 0, none⟩), .agg #[.slice ua un uc, .slice na k nc]] w (DrawnL rb A n c p 40 5 w) := by
  obtain ⟨i0, hi, hz0, hz1, hz2⟩ := info_parts infoDeed
  have HI := Lib.hid hi
  have HZ0 := Lib.hid hz0
  have HZ1 := Lib.hid hz1
  have HZ2 := Lib.hid hz2
  clear hi hz0 hz1 hz2
  have X := BoxN.start w #[.slice ua un uc, .slice na k nc] 54
  have l0 := X.cell 0 rfl
  have l1 := X.cell 1 rfl
  have cw := Chg.alloc (fun j => j = rb) w (.cells #[.slice ua un uc, .slice na k nc] 54)
  have hR0 := (Chg.alloc (fun _ => False) w (.cells #[.slice ua un uc, .slice na k nc] 54)).rd h hrb (fun e => e)
  have sz0 : (w.alloc (.cells #[.slice ua un uc, .slice na k nc] 54)).heap.size = w.heap.size + 1 := by simp
  have HZ := Lib.hid hz
  have HBY : ∀ {wx : World}, Chg (fun j => j = rb) w wx → BytesAt wx B A b o n z0 := fun hG => HZ.out.below ((hG.below (B := rb) (by omega) (fun j hj => by have hj' : j = rb := hj; omega)).mono hB)
  have Y := World.alloc_heap_new (w.alloc (.cells #[.slice ua un uc, .slice na k nc] 54)) (.cells #[] 24)
  have bY := (Below.refl (w.alloc (.cells #[.slice ua un uc, .slice na k nc] 54)).heap.size (w.alloc (.cells #[.slice ua un uc, .slice na k nc] 54))).alloc (Nat.le_refl _) (.cells #[] 24)
  have hL : DLs (w.alloc (.cells #[.slice ua un uc, .slice na k nc] 54)) rb A n c p [] (.slice (some ⟨(w.alloc (.cells #[.slice ua un uc, .slice na k nc] 54)).heap.size, 0, none⟩) 0 0) ((w.alloc (.cells #[.slice ua un uc, .slice na k nc] 54)).alloc (.cells #[] 24)) :=
    ⟨⟨rfl, .inr ⟨_, 0, #[], rfl, Nat.le_refl _, Y, Nat.le_refl _, Nat.zero_le _, rfl, rfl⟩⟩, (Chg.alloc (fun _ => False) _ (.cells #[] 24)).rd hR0 (by omega) (fun e => e), Chg.alloc _ _ _, by omega⟩
  rw [sz0] at hL
  clear hz X Y bY h hR0
  go_enter Tryd.func61, Tryd.ntmps61
  go_wp2_with fail
  generalize w.alloc (.cells #[.slice ua un uc, .slice na k nc] 54) = w0 at l0 l1 cw sz0 hL ⊢
  generalize w0.alloc (.cells #[] 24) = w1 at hL ⊢
  go_at_call 39
  refine (pick_any (q := 6) (by omega) (by omega) (by omega) hn hL.rd (HBY (cw.trans hL.old)) hB).mono ?_
  rintro e w2 ⟨v, rfl, v0, v1, R2, O2⟩
  have hL2 := hL.chg (Chg.of_only O2) R2
  clear hL R2 O2
  obtain ⟨j0, rfl⟩ : ∃ j : Nat, v = (j : Int) := ⟨v.toNat, by omega⟩
  go_wp2_with fail
  go_loopw [5, 6] (fun out kv wr => ∃ (D : List Dd) (j p' : Nat), kv = .int .i64 (j : Int) ∧ DLs w0 rb A n c p' D out wr ∧ D.length + j ≤ 5 ∧ p' + 6 * j ≤ p + 31) (fun _ kv _ => (intOf kv).toNat)
  case atStart => exact ⟨[], j0, p + 1, rfl, hL2, by simp; omega, by omega⟩
  case round =>
    obtain ⟨D, j, p', rfl, hLr, hDj, hpj⟩ := hrel
    have HL := Lib.hid hLr
    by_cases hj : j = 0
    · subst hj
      go_wp2_with fail
      go_ret
      exact ⟨D, _, p', rfl, own_less HL.out.own (by omega), by omega, by omega, HL.out.rd, cw.trans HL.out.old⟩
    · have hj' : (0 : Int) < (j : Int) := by omega
      have b0 := hLr.old.at_cell (p := ⟨w.heap.size, 0, none⟩) (by show ¬ (w.heap.size = rb); omega) l0
      have b1 := hLr.old.at_cell (p := ⟨w.heap.size, 1, none⟩) (by show ¬ (w.heap.size = rb); omega) l1
      clear hLr
      go_wp2_with fail
      go_at_call 31
      refine (l20Deed_any hk (by omega) hn HL.out.rd (HBY (cw.trans HL.out.old)) hB HL.out.rbW).mono ?_
      rintro e w3 ⟨⟨dk, da, db⟩, p3, rfl, hp3, R3, C3⟩
      have hL3 := HL.out.chg C3 R3
      have hown := hL3.own
      have hsz3 := hL3.old.size
      have HNW := cells_new w3 24 [.int .i64 dk, .int .i64 da, .int .i64 db]
      unfold deedV
      go_wp2_with (at_builtin; refine wpList_append_own _ rfl _ _ 32 rfl w0.heap.size 24 i0 (.agg #[.int .i64 0, .int .i64 0, .int .i64 0]) 3 24 Tryd.underlying32 HI.out HZ0.out HZ1.out HZ2.out rfl (by decide) _ _ _ rfl (hown.alloc _) ⟨w3.heap.size, 0, none⟩ 1 1 [.int .i64 dk, .int .i64 da, .int .i64 db] rfl rfl HNW ?c2 ?c3 ?c4 ?c5 ?_)
      case c2 => simp [Value.oneCell']
      case c3 => unfold maxLen; omega
      case c4 => omega
      case c5 => simp; omega
      intro v' w4 hown4 hgrow _
      rw [← sz0] at hown4
      have hL4 := Lib.hid (hL3.grow (d := ⟨dk, da, db⟩) hown4 hgrow)
      clear hown4 hgrow hown hL3 HNW b0 b1
      go_wp2_with fail
      go_roundw
      case rel => exact ⟨D ++ [⟨dk, da, db⟩], j - 1, p3, by go_num, hL4.out, by rw [List.length_append, List.length_singleton]; omega, by omega⟩
      case measure => simp [intOf]; omega
theorem ds_from {w : World} {base : Nat} {v : Value} {D : List Dd} (h : w.ownsRow base 24 3 v D.length (D.flatMap deedC)) : ∃ a g cap, v = .slice a D.length cap ∧ DsAt w w.heap.size a g 0 D ∧ (0 < D.length → base ≤ g ∧ g < w.heap.size) := by
  rcases h.2 with ⟨rfl, h0⟩ | ⟨g, cap, cur, rfl, hb, hh, hc, _⟩
  · refine ⟨none, 0, 0, by rw [h0], fun j d hd => ?_, fun hp => by omega⟩
    have := (List.getElem?_eq_some_iff.1 hd).1
    omega
  · refine ⟨some ⟨g, 0, none⟩, g, cap, rfl, fun j d hd => ?_, fun _ => h.lt g rfl⟩
    obtain ⟨h1, h2, h3⟩ := flat_at hd
    rw [Nat.zero_add]
    exact ⟨rfl, (h.lt g rfl).2, own_cell h h1, own_cell h h2, own_cell h h3⟩
theorem DsAt.keep {w w' : World} {B : Nat} {a : Option Addr} {g o : Nat} {D : List Dd} (h : DsAt w B a g o D) (hb : 0 < D.length → w'.heap[g]? = w.heap[g]?) : DsAt w' B a g o D := fun j d hd => by
  obtain ⟨h1, h2, h3, h4, h5⟩ := h j d hd
  have hb := hb (by have := (List.getElem?_eq_some_iff.1 hd).1; omega)
  exact ⟨h1, h2, (World.cell?_of_block (w := w) (a := ⟨g, o + j * 3, none⟩) hb).trans h3, (World.cell?_of_block (w := w) (a := ⟨g, o + j * 3 + 1, none⟩) hb).trans h4, (World.cell?_of_block (w := w) (a := ⟨g, o + j * 3 + 2, none⟩) hb).trans h5⟩
/-- A list of deeds drawn, each with a text. -/
def DrawnW (rb : Nat) (A : Option Addr) (n c p q l : Nat) (w : World) (e : Ending) (w' : World) : Prop :=
  ∃ (D : List Dd) (v : Value) (p' : Nat), e = .returned v ∧ w'.ownsRow w.heap.size 24 3 v D.length (D.flatMap deedC) ∧ D.length ≤ l ∧ (∀ d ∈ D, deedL d ≠ []) ∧ p' ≤ p + q ∧ Rd w' rb A n c p' ∧ Chg (fun j => j = rb) w w'

set_option maxRecDepth 100000 in
set_option maxHeartbeats 4000000 in
theorem l20Written_any {rb n c p : Nat} {A : Option Addr} {B b o : Nat} {z0 : Nat → Nat} {w : World} (hp : p ≤ 900) (hn : n ≤ 2000) (h : Rd w rb A n c p) (hz : BytesAt w B A b o n z0) (hB : B ≤ rb) (hrb : rb < w.heap.size) :
    Calls Tryd.prog 43 #[.pointer (some ⟨rb, 0, none⟩)] w (DrawnW rb A n c p 80 5 w) := by
  obtain ⟨i0, hi, hz0, hz1, hz2⟩ := info_parts infoDeed
  have HI := Lib.hid hi
  have HZ0 := Lib.hid hz0
  have HZ1 := Lib.hid hz1
  have HZ2 := Lib.hid hz2
  clear hi hz0 hz1 hz2
  have HZ := Lib.hid hz
  have HBY : ∀ {wx : World}, Chg (fun j => j = rb) w wx → BytesAt wx B A b o n z0 := fun hG => HZ.out.below ((hG.below (B := rb) (by omega) (fun j hj => by have hj' : j = rb := hj; omega)).mono hB)
  have Y := World.alloc_heap_new w (.cells #[] 24)
  have sz1 : (w.alloc (.cells #[] 24)).heap.size = w.heap.size + 1 := by simp
  have hL : DLs w rb A n c p [] (.slice (some ⟨w.heap.size, 0, none⟩) 0 0) (w.alloc (.cells #[] 24)) :=
    ⟨⟨rfl, .inr ⟨_, 0, #[], rfl, Nat.le_refl _, Y, Nat.le_refl _, Nat.zero_le _, rfl, rfl⟩⟩, (Chg.alloc (fun _ => False) _ (.cells #[] 24)).rd h hrb (fun e => e), Chg.alloc _ _ _, hrb⟩
  clear hz Y h
  go_enter Tryd.func43, Tryd.ntmps43
  go_wp2_with fail
  generalize w.alloc (.cells #[] 24) = w1 at hL sz1 ⊢
  go_at_call 32
  refine (l20Logic_any (by omega) (by omega) (by omega) hn hL.rd (HBY hL.old) hB hL.rbW).mono ?_
  rintro e w2 ⟨ua, l, m, na, g0, o2, k, nc, zz, p2, rfl, hlog, hf, hg0, hm, hML, hk, hR2, hp2, hC⟩
  have hL2 := hL.chg hC hR2
  have s2 := hC.size
  clear hL hlog hf hg0 hML hC hR2 hm
  go_wp2_with fail
  go_at_call 61
  refine (l20Deeds_any (by omega) (by omega) hn hL2.rd (HBY hL2.old) hB hL2.rbW).mono ?_
  rintro e w3 ⟨DL, lv, p3, rfl, hown, hDL, hp3, hR3, hC3⟩
  have hL3 := hL2.chg hC3 hR3
  have s3 := hC3.size
  obtain ⟨a, g, cap, rfl, hds, hbg⟩ := ds_from hown
  clear hL2 hown hR3 hC3
  obtain ⟨mm, hmm⟩ : ∃ q, DL.length = q := ⟨_, rfl⟩
  have HMM := Lib.hid hmm
  rw [hmm] at hbg hDL ⊢
  clear hmm
  go_wp2_with fail
  go_loopw [3, 5] (fun out kv wr => ∃ (D : List Dd) (k : Nat), kv = .int .i64 (k : Int) ∧ k ≤ mm ∧ DLs w rb A n c p3 D out wr ∧ (∀ d ∈ D, deedL d ≠ []) ∧ D.length ≤ k ∧ (0 < mm → wr.heap[g]? = w3.heap[g]? ∧ out.ownBlock ≠ some g)) (fun _ kv _ => mm - (intOf kv).toNat)
  case atStart =>
    refine ⟨[], 0, rfl, Nat.zero_le _, hL3, by simp, Nat.le_refl _, fun h0 => ⟨rfl, fun e => ?_⟩⟩
    have e' : w.heap.size = g := by simpa [Value.ownBlock] using e
    have := (hbg h0).1
    omega
  case round =>
    obtain ⟨D, k, rfl, hk, hLr, hAll, hDk, hgb⟩ := hrel
    have HL := Lib.hid hLr
    have HA := Lib.hid hAll
    have HG := Lib.hid hgb
    have szr := hLr.old.size
    by_cases hlt : k < mm
    · have hlt' : (k : Int) < (mm : Int) := by omega
      have hk0 : (0 : Int) ≤ (k : Int) := by omega
      obtain ⟨⟨dk, da, db⟩, hd⟩ : ∃ d, DL[k]? = some d := ⟨_, List.getElem?_eq_getElem (by rw [HMM.out]; exact hlt)⟩
      have hgr : g < wr.heap.size := (Array.getElem?_eq_some_iff.1 ((HG.out (by omega)).1.trans (Array.getElem?_eq_some_iff.2 ⟨(hbg (by omega)).2, rfl⟩))).1
      have hdr := hds.keep (w' := wr) (fun _ => (HG.out (by omega)).1)
      obtain ⟨rfl, _, c0, c1, c2⟩ := hdr k _ hd
      have HT := spec_DeedText ⟨dk, da, db⟩ wr
      obtain ⟨tx, etx⟩ : ∃ tx : ByteArray, (⟨(deedL ⟨dk, da, db⟩).toArray⟩ : ByteArray) = tx := ⟨_, rfl⟩
      have ltx : tx.toList = deedL ⟨dk, da, db⟩ := by rw [← etx, Lib.toList_data]
      unfold deedV strV at HT
      rw [etx] at HT
      dsimp only at c0 c1 c2
      rw [Nat.zero_add] at c0 c1 c2
      clear hLr hAll hgb hd etx hdr
      go_wp2_with fail
      go_at_call 12
      refine HT.mono ?_
      rintro e w4 ⟨rfl, b4⟩
      have hL4 := HL.out.less b4
      have d0 := (b4.cell (p := ⟨g, k * 3, none⟩) hgr).trans c0
      have d1 := (b4.cell (p := ⟨g, k * 3 + 1, none⟩) hgr).trans c1
      have d2 := (b4.cell (p := ⟨g, k * 3 + 2, none⟩) hgr).trans c2
      have hg4 : w4.heap[g]? = w3.heap[g]? := (b4.block g hgr).trans (HG.out (by omega)).1
      have s4 := b4.size
      clear c0 c1 c2 HT
      by_cases he : deedL ⟨dk, da, db⟩ = []
      · have t0 : tx.toList.isEmpty = true := by rw [ltx, he]; rfl
        have HX := Lib.hid hL4
        have hgo := (HG.out (by omega)).2
        have HG4 : Hid (0 < mm → w4.heap[g]? = w3.heap[g]? ∧ _) := fun _ => ⟨hg4, hgo⟩
        clear hL4 d0 d1 d2 hg4 hgo
        go_wp2_with fail
        go_roundw
        case rel => exact ⟨D, k + 1, by go_num, by omega, HX.out, HA.out, by omega, HG4.out⟩
        case measure => simp [intOf]; omega
      · have t0 : tx.toList.isEmpty = false := by rw [ltx, List.isEmpty_eq_false_iff]; exact he
        clear ltx
        have hown := hL4.own
        have HNW := cells_new w4 24 [.int .i64 dk, .int .i64 da, .int .i64 db]
        have szw := hL4.old.size
        go_wp2_with (at_builtin; refine wpList_append_lies _ rfl _ _ 32 rfl w.heap.size 24 i0 (.agg #[.int .i64 0, .int .i64 0, .int .i64 0]) 3 24 Tryd.underlying32 HI.out HZ0.out HZ1.out HZ2.out rfl (by decide) _ _ _ rfl (hown.alloc _) ⟨w4.heap.size, 0, none⟩ 1 1 [.int .i64 dk, .int .i64 da, .int .i64 db] rfl rfl HNW ?c2 (by decide) ?c3 ?c4 ?c5 _ rfl ?_)
        case c2 => simp [Value.oneCell']
        case c3 => unfold maxLen; omega
        case c4 => omega
        case c5 => simp; omega
        intro g5 cap5 w5 hown5 hgrow hat hlt5
        have hL5 := Lib.hid (hL4.grow (d := ⟨dk, da, db⟩) hown5 hgrow)
        have hgo := (HG.out (by omega)).2
        have hsa : (w4.alloc (.cells #[.int .i64 dk, .int .i64 da, .int .i64 db] 24)).heap.size = w4.heap.size + 1 := by simp
        have hg5 : w5.heap[g]? = w3.heap[g]? := ((hgrow.block g (by omega) (fun e => hgo e.symm)).trans (Below.heap_alloc _ _ _ (by omega))).trans hg4
        have hne : g5 ≠ g := fun e => by
          rcases hat with h1 | h1
          · exact hgo (by rw [h1, e])
          · first | omega | (rw [hsa] at h1; omega)
        have HG5 : Hid (0 < mm → w5.heap[g]? = w3.heap[g]? ∧ (Value.slice (some ⟨g5, 0, none⟩) (D.length + 1) cap5).ownBlock ≠ some g) := fun _ => ⟨hg5, fun e => hne (by simpa [Value.ownBlock] using e)⟩
        have HA5 : Hid (∀ d ∈ D ++ [⟨dk, da, db⟩], deedL d ≠ []) := fun d hd => by
          rcases List.mem_append.1 hd with h1 | h1
          · exact HA.out d h1
          · rw [List.mem_singleton.1 h1]; exact he
        clear hown5 hgrow hat hown hL4 HNW d0 d1 d2 hg4 hg5 hgo hne hsa he
        go_wp2_with fail
        go_roundw
        case rel => exact ⟨D ++ [⟨dk, da, db⟩], k + 1, by go_num, by omega, hL5.out, HA5.out, by rw [List.length_append, List.length_singleton]; omega, HG5.out⟩
        case measure => simp [intOf]; omega
    · have hlt' : ¬ (k : Int) < (mm : Int) := by omega
      go_wp2_with fail
      go_ret
      exact ⟨D, _, p3, rfl, HL.out.own, by omega, HA.out, by omega, HL.out.rd, HL.out.old⟩
end Go.Proofs.YtjofkejfldmmlaaDoor
