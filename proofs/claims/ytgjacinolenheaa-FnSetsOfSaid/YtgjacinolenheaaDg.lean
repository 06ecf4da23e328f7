/- A logic of the call's own: rows, and opposites, as they lie in memory; an append of the call's own as one step of a region that draws. -/
import Derived.Test.YtgjacinolenheaaDd
import Derived.Test.YtgjacinolenheaaOf
import Derived.Maps.AppendAt
import Derived.Deep.RegionLaw
namespace Go.Proofs.Ytgjacinolenheaa
open Go.RowKit Go.Deep

theorem step_append_own {P : Program} {ops : Array Oper} {o : Oper} {a : Act} {w : World} {K : Act → World → Prop} {Q : Exit → Act → World → Prop} {E : Prop}
    (hg : o.guard = none) (s x : Operand) (t : TypeId) (hop : o.op = Op.call { callee := Callee.builtin Builtin.append, args := #[s, x], argTypes := #[t, t] })
    (base : Nat) (e : TypeId) (i : TypeInfo) (z : Value) (size bytes : Nat) (ht : P.underlying t = some (.slice e)) (hi : P.info? e = some i) (hz : i.zero = some z)
    (hsize : i.size = size) (hby : i.bytes = bytes) (hzs : z.cells.size = size) (hsz : 0 < size)
    (v : Value) (n : Nat) (xs : List Value) (hs : a.eval s = v) (hown : w.ownsRow base e size v n xs)
    (ad : Addr) (m c : Nat) (news : List Value) (hx : a.eval x = .slice (some ad) m c) (hl : news.length = m * size) (hnews : ∀ j u, news[j]? = some u → w.cell? (ad.add j) = some u) (h1 : ∀ u ∈ news, u.oneCell' = true)
    (h63 : n + m ≤ maxLen) (hbytes : (n + m) * bytes ≤ 140737488355328) (hbase : base ≤ w.heap.size)
    (hK : ∀ v' w', w'.ownsRow base e size v' (n + m) (xs ++ news) → w.grownBy w' v.ownBlock → (v'.ownBlock = v.ownBlock ∨ v'.ownBlock = some w.heap.size) → K (a.put o.dst v') w') :
    if Region.wanted o (yielded ops a.tmps) = true then Oper.wp P o a w K Q else E := by
  have hw : Region.wanted o (yielded ops a.tmps) = true := by simp [Region.wanted, hg]
  rw [if_pos hw]
  obtain ⟨v', w', hr, h2, h3, _, h5⟩ := run_append_own_at (P := P) w base t o.type e i z size bytes ht hi hz hsize hby hzs hsz v n xs hown ad m c news hl hnews h1 h63 hbytes hbase
  unfold Oper.wp execOp
  simp only [hop, resolve, invoke, builtin, Sem.run_bind, Sem.run_pure, Result.andThen_ok, List.map_toArray, List.map_cons, List.map_nil, hs, hx, hr]
  exact hK v' w' h2 h3 h5

/-- From one world to another one only the blocks of S have turned, and new ones have come. -/
structure Chg (S : Nat → Prop) (w w' : World) : Prop where
  os : w'.os = w.os
  tape : w'.tape = w.tape
  output : w'.output = w.output
  size : w.heap.size ≤ w'.heap.size
  block : ∀ j, j < w.heap.size → ¬ S j → w'.heap[j]? = w.heap[j]?
theorem Chg.refl (S : Nat → Prop) (w : World) : Chg S w w := ⟨rfl, rfl, rfl, Nat.le_refl _, fun _ _ _ => rfl⟩
theorem Chg.trans {S : Nat → Prop} {a b c : World} (h : Chg S a b) (k : Chg S b c) : Chg S a c :=
  ⟨k.os.trans h.os, k.tape.trans h.tape, k.output.trans h.output, Nat.le_trans h.size k.size, fun j hj hs => (k.block j (Nat.lt_of_lt_of_le hj h.size) hs).trans (h.block j hj hs)⟩
theorem Chg.mono {S T : Nat → Prop} {a b : World} (h : Chg S a b) (hs : ∀ j, S j → T j) : Chg T a b := ⟨h.os, h.tape, h.output, h.size, fun j hj ht => h.block j hj fun e => ht (hs j e)⟩
theorem Chg.of_only {S : Nat → Prop} {a b : World} (h : OnlyIn S a b) : Chg S a b := ⟨h.os, h.tape, h.output, Nat.le_of_eq h.size.symm, fun j _ hs => h.block j hs⟩
theorem Chg.of_below {S : Nat → Prop} {B : Nat} {a b : World} (h : Below B a b) (hB : ∀ j, j < a.heap.size → B ≤ j → S j) : Chg S a b :=
  ⟨h.os, h.tape, h.output, h.size, fun j hj hs => h.block j (by
    rcases Nat.lt_or_ge j B with e | e
    · exact e
    · exact absurd (hB j hj e) hs)⟩
theorem Chg.of_grown {S : Nat → Prop} {r : Option Nat} {a b : World} (h : a.grownBy b r) (hr : ∀ k, r = some k → S k) : Chg S a b :=
  ⟨h.os, h.tape, h.output, h.size, fun j hj hs => h.block j hj fun e => hs (hr j e.symm)⟩
theorem Chg.alloc (S : Nat → Prop) (w : World) (o : Obj) : Chg S w (w.alloc o) := Chg.of_below ((Below.refl w.heap.size w).alloc (Nat.le_refl _) o) fun j hj hB => absurd hB (by omega)
theorem Chg.drew (S : Nat → Prop) (w : World) : Chg S w w.drew := ⟨rfl, rfl, rfl, Nat.le_refl _, fun _ _ _ => rfl⟩
theorem Chg.drewN (S : Nat → Prop) (w : World) (n : Nat) : Chg S w (w.drewN n) := ⟨rfl, rfl, rfl, Nat.le_refl _, fun _ _ _ => rfl⟩
theorem Chg.set {S : Nat → Prop} {w : World} {b i : Nat} (hs : S b) (x : Value) : Chg S w (w.setCell ⟨b, i, none⟩ x) := Chg.of_only ((OnlyIn.refl S w).set hs i x)
theorem Chg.own {S : Nat → Prop} {w w' : World} {base : Nat} {e : TypeId} {size n : Nat} {v : Value} {xs : List Value} (h : Chg S w w') (ho : w.ownsRow base e size v n xs) (hs : ∀ g, v.ownBlock = some g → ¬ S g) : w'.ownsRow base e size v n xs := by
  refine ⟨ho.1, ?_⟩
  rcases ho.2 with ⟨h1, h2⟩ | ⟨g, cap, cur, rfl, hb, hh, r⟩
  · exact .inl ⟨h1, h2⟩
  · exact .inr ⟨g, cap, cur, rfl, hb, (h.block g (ho.lt g rfl).2 (hs g rfl)).trans hh, r⟩
theorem Chg.two {S : Nat → Prop} {w w' : World} {p : Nat} {u v : Value} (h : Chg S w w') (ht : TwoAt w p u v) (hs : ¬ S p) : TwoAt w' p u v := by
  have hp : p < w.heap.size := World.block_lt_of_cell? w ⟨p, 0, none⟩ ht.c0
  have hb := h.block p hp hs
  exact ⟨(World.cell?_of_block (a := ⟨p, 0, none⟩) hb).trans ht.c0, (World.cell?_of_block (a := ⟨p, 1, none⟩) hb).trans ht.c1, (World.frozen?_of_block (a := ⟨p, 0, none⟩) hb).trans ht.f0, (World.frozen?_of_block (a := ⟨p, 1, none⟩) hb).trans ht.f1⟩
theorem Chg.out {S : Nat → Prop} {w w' : World} {base : Nat} {v : Value} {k N : Nat} {rv : Nat → Value} {Z : Nat → Nat → Int} (h : Chg S w w') (ho : Out w base v k N rv Z) (h1 : ∀ g, v.ownBlock = some g → ¬ S g) (h2 : ∀ r, r < k → ∀ g, (rv r).ownBlock = some g → ¬ S g) : Out w' base v k N rv Z :=
  ⟨h.own ho.top h1, fun r hr => h.own (ho.row r hr) (h2 r hr), ho.apart, ho.bit⟩
theorem Chg.below {S : Nat → Prop} {B : Nat} {w w' : World} (h : Chg S w w') (hB : B ≤ w.heap.size) (hs : ∀ j, S j → B ≤ j) : Below B w w' :=
  ⟨h.os, h.tape, h.output, h.size, fun j hj => h.block j (by omega) fun e => by have := hs j e; omega⟩

/-- A list of the call's own: its value, of so many numbers. -/
def IntsAt (w : World) (base : Nat) (t : Value) (k : Nat) (y : Nat → Int) : Prop := w.ownsRow base 3 1 t k ((List.range k).map fun c => .int .i64 (y c))
theorem IntsAt.val {w : World} {base : Nat} {t : Value} {k : Nat} {y : Nat → Int} (h : IntsAt w base t k y) (hk : 0 < k) : ∃ g cap, t = .slice (some ⟨g, 0, none⟩) k cap ∧ base ≤ g ∧ g < w.heap.size ∧ k ≤ cap := by
  rcases h.2 with ⟨_, h0⟩ | ⟨g, cap, cur, rfl, hb, hh, hc, _⟩
  · omega
  · exact ⟨g, cap, rfl, hb, (h.lt g rfl).2, hc⟩
theorem IntsAt.cell {w : World} {base g cap : Nat} {k : Nat} {y : Nat → Int} (h : IntsAt w base (.slice (some ⟨g, 0, none⟩) k cap) k y) {c : Nat} (hc : c < k) : w.cell? ⟨g, c, none⟩ = some (.int .i64 (y c)) := by
  have := World.ownsRow.cellAt h c (by omega)
  rw [this]
  simp [hc]
theorem IntsAt.frozen {w : World} {base g cap : Nat} {k : Nat} {y : Nat → Int} (h : IntsAt w base (.slice (some ⟨g, 0, none⟩) k cap) k y) (c : Nat) : w.frozen? ⟨g, c, none⟩ = false := World.ownsRow.frozenAt h c
theorem IntsAt.step {w : World} {base : Nat} {t : Value} {k : Nat} {y : Nat → Int} {x : Int} (h : w.ownsRow base 3 1 t (k + 1) ((List.range k).map (fun c => .int .i64 (y c)) ++ [.int .i64 x])) : IntsAt w base t (k + 1) (fun c => if c = k then x else y c) := by
  unfold IntsAt
  have e1 : (List.range (k + 1)).map (fun c => Value.int .i64 (if c = k then x else y c)) = (List.range k).map (fun c => .int .i64 (y c)) ++ [.int .i64 x] := by
    rw [List.range_succ, List.map_append]
    congr 1
    · exact map_congr_range fun i hi => by rw [if_neg (by omega)]
    · simp
  rw [e1]
  exact h
theorem IntsAt.store {w : World} {base g cap k : Nat} {y : Nat → Int} (h : IntsAt w base (.slice (some ⟨g, 0, none⟩) k cap) k y) (c : Nat) (x : Int) : IntsAt (w.setCell ⟨g, c, none⟩ (.int .i64 x)) base (.slice (some ⟨g, 0, none⟩) k cap) k (fun c' => if c' = c then x else y c') := by
  have h1 := (World.ownsRow.stored h c (.int .i64 x)).1
  rw [map_set] at h1
  unfold IntsAt
  rw [map_congr_range (g := fun c' => .int .i64 (if c' = c then x else y c'))] at h1
  · exact h1
  · intro i _
    show (if i = c then Value.int .i64 x else .int .i64 (y i)) = _
    by_cases e : i = c
    · subst e; simp
    · simp [e]
theorem IntsAt.nil (w : World) (base : Nat) (y : Nat → Int) : IntsAt w base (.slice none 0 0) 0 y := World.ownsRow_nil w base _ 1
theorem Chg.ints {S : Nat → Prop} {w w' : World} {base : Nat} {t : Value} {k : Nat} {y : Nat → Int} (h : Chg S w w') (ho : IntsAt w base t k y) (hs : ∀ g, t.ownBlock = some g → ¬ S g) : IntsAt w' base t k y := h.own ho hs

/-- Rows and opposites of the call's own: so many rows of so many numbers, each opposite one of the answers. -/
structure LogO (w : World) (base : Nat) (u t : Value) (n : Nat) (rv : Nat → Value) (Z : Nat → Nat → Int) (y : Nat → Int) : Prop where
  pos : 1 ≤ n
  hi : n ≤ 12
  out : Out w base u n n rv Z
  ints : IntsAt w base t n y
  sep : ∀ r, r < n → (rv r).ownBlock ≠ t.ownBlock
  rng : ∀ c, c < n → 0 ≤ y c ∧ y c < (n : Int)
theorem LogO.base {w : World} {base base' : Nat} {u t : Value} {n : Nat} {rv : Nat → Value} {Z : Nat → Nat → Int} {y : Nat → Int} (h : LogO w base u t n rv Z y) (hb : base' ≤ base) : LogO w base' u t n rv Z y :=
  ⟨h.pos, h.hi, h.out.base hb, ownsRow_base h.ints hb, h.sep, h.rng⟩
theorem LogO.below {w w' : World} {base B : Nat} {u t : Value} {n : Nat} {rv : Nat → Value} {Z : Nat → Nat → Int} {y : Nat → Int} (h : LogO w base u t n rv Z y) (hb : Below B w w') (hB : w.heap.size ≤ B) : LogO w' base u t n rv Z y :=
  ⟨h.pos, h.hi, h.out.below hb hB, ownsRow_below h.ints hb hB, h.sep, h.rng⟩
theorem LogO.chg {S : Nat → Prop} {w w' : World} {base : Nat} {u t : Value} {n : Nat} {rv : Nat → Value} {Z : Nat → Nat → Int} {y : Nat → Int} (h : LogO w base u t n rv Z y) (hc : Chg S w w') (hs : ∀ j, S j → j < base) : LogO w' base u t n rv Z y :=
  ⟨h.pos, h.hi, hc.out h.out (fun g hg e => by have := ownsRow_block h.out.top g hg; have := hs g e; omega) (fun r hr g hg e => by have := ownsRow_block (h.out.row r hr) g hg; have := hs g e; omega),
   hc.ints h.ints (fun g hg e => by have := ownsRow_block h.ints g hg; have := hs g e; omega), h.sep, h.rng⟩
/-- How it reads. -/
theorem LogO.at_ {w : World} {base : Nat} {u t : Value} {n : Nat} {rv : Nat → Value} {Z : Nat → Nat → Int} {y : Nat → Int} (h : LogO w base u t n rv Z y) :
    ∃ (ua : Option Addr) (l : Lay) (g nc : Nat), u = .slice ua n l.cap ∧ t = .slice (some ⟨g, 0, none⟩) n nc ∧ LogAt w w.heap.size ua l ⟨n, fun _ => n, Z⟩ (some ⟨g, 0, none⟩) g 0 n y ∧ LayFrom base l ⟨n, fun _ => n, Z⟩ ∧ base ≤ g := by
  have hp := h.pos
  have hh := h.hi
  obtain ⟨ua, l, rfl, hm, hf⟩ := h.out.mat (by omega)
  obtain ⟨g, nc, rfl, hg, hlt, _⟩ := h.ints.val (by omega)
  exact ⟨ua, l, g, nc, rfl, rfl, ⟨hm, ⟨fun c hc => ⟨rfl, hlt, by rw [Nat.zero_add]; exact h.ints.cell hc⟩⟩, by show n ≤ _; omega, fun _ _ => by show n ≤ _; omega, by omega, Nat.le_refl _⟩, hf, hg⟩
/-- What makes a logic hands back. -/
def MadeL (n : Nat) (w : World) (e : Ending) (w' : World) : Prop :=
  ∃ (u t : Value) (rv : Nat → Value) (Z : Nat → Nat → Int) (y : Nat → Int), e = .returned (.agg #[u, t]) ∧ LogO w' w.heap.size u t n rv Z y ∧ Below w.heap.size w w'
end Go.Proofs.Ytgjacinolenheaa
