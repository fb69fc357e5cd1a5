/- Four lists of a call's own, each in a block of its own; things that are done, in memory. -/
import Derived.Test.YtffgglkobngddabPok
import Derived.Test.YtffgglkobngddabPoMathb
import Derived.Deep.RegionHeld3
namespace Go.Proofs.Ytffgglkobngddab.Po
open Go.RowKit Go.Proofs.Ytffgglkobngddab.Gn

/-- A thing that is done. -/
structure Ac where
  k : Int
  at' : Int
  s : Int
def zeroA : Ac := ⟨0, 0, 0⟩
def aob (x : Ac) : Obj := .cells #[.int .i64 x.k, .int .i64 x.at', .int .i64 x.s] 55
def kA : Kind Ac where
  cells := fun t => [.int .i64 t.k, .int .i64 t.at', .int .i64 t.s]
  size := 3
  len := fun _ => rfl
  one := fun x u hu => by simp at hu; rcases hu with rfl | rfl | rfl <;> rfl
  pos := by decide

theorem ac_cells {w : World} {a : Option Addr} {cap : Nat} {L : List Ac} (h : Lies kA w a cap L) {i : Nat} (hi : i < L.length) :
    ∃ b off, a = some ⟨b, off, none⟩ ∧ b < w.heap.size ∧ w.cell? ⟨b, off + i * 3, none⟩ = some (.int .i64 (L.getD i zeroA).k) ∧ w.cell? ⟨b, off + i * 3 + 1, none⟩ = some (.int .i64 (L.getD i zeroA).at') ∧
      w.cell? ⟨b, off + i * 3 + 2, none⟩ = some (.int .i64 (L.getD i zeroA).s) := by
  obtain ⟨b, off, ha, hb, hc⟩ := h.elem (i := i) (x := L.getD i zeroA) (by simp [List.getD, hi])
  exact ⟨b, off, ha, hb, hc 0 _ rfl, hc 1 _ rfl, hc 2 _ rfl⟩
theorem aob_cells {W : World} {b : Nat} {t : Ac} (hb : W.heap[b]? = some (aob t)) :
    W.cell? ⟨b, 0, none⟩ = some (.int .i64 t.k) ∧ W.cell? ⟨b, 1, none⟩ = some (.int .i64 t.at') ∧ W.cell? ⟨b, 2, none⟩ = some (.int .i64 t.s) := by
  unfold aob at hb
  refine ⟨?_, ?_, ?_⟩ <;> simp [World.cell?, hb]

/-- Not in one block. -/
def Ap (u v : Value) : Prop := ∀ k, u.ownBlock = some k → v.ownBlock = some k → False
theorem Ap.symm {u v : Value} (h : Ap u v) : Ap v u := fun k h1 h2 => h k h2 h1
theorem ap_nil (v : Value) : Ap (.slice none 0 0) v := fun k h => by cases h

structure Four (W : World) (B : Nat) (v1 : Value) (L1 : List Tr) (v2 : Value) (L2 : List Tr) (v3 : Value) (L3 : List Tr) (v4 : Value) (L4 : List Tr) : Prop where
  r1 : Row kT 42 W B v1 L1
  r2 : Row kT 42 W B v2 L2
  r3 : Row kT 42 W B v3 L3
  r4 : Row kT 42 W B v4 L4
  a12 : Ap v1 v2
  a13 : Ap v1 v3
  a14 : Ap v1 v4
  a23 : Ap v2 v3
  a24 : Ap v2 v4
  a34 : Ap v3 v4

variable {W W' : World} {B : Nat} {v1 v2 v3 v4 : Value} {L1 L2 L3 L4 : List Tr}

theorem Four.nil (W : World) (B : Nat) : Four W B (.slice none 0 0) [] (.slice none 0 0) [] (.slice none 0 0) [] (.slice none 0 0) [] :=
  ⟨.nil, .nil, .nil, .nil, ap_nil _, ap_nil _, ap_nil _, ap_nil _, ap_nil _, ap_nil _⟩
theorem Four.on (h : Four W B v1 L1 v2 L2 v3 L3 v4 L4) (hb : Below W.heap.size W W') : Four W' B v1 L1 v2 L2 v3 L3 v4 L4 :=
  ⟨h.r1.below hb, h.r2.below hb, h.r3.below hb, h.r4.below hb, h.a12, h.a13, h.a14, h.a23, h.a24, h.a34⟩
theorem Four.rot (h : Four W B v1 L1 v2 L2 v3 L3 v4 L4) : Four W B v2 L2 v3 L3 v4 L4 v1 L1 :=
  ⟨h.r2, h.r3, h.r4, h.r1, h.a23, h.a24, h.a12.symm, h.a34, h.a13.symm, h.a14.symm⟩
theorem Four.set (h : Four W B v1 L1 v2 L2 v3 L3 v4 L4) (p : Addr) (hp : p.block < B) (u : Value) : Four (W.setCell p u) B v1 L1 v2 L2 v3 L3 v4 L4 :=
  ⟨Row.set h.r1 p hp u, Row.set h.r2 p hp u, Row.set h.r3 p hp u, Row.set h.r4 p hp u, h.a12, h.a13, h.a14, h.a23, h.a24, h.a34⟩

theorem ap_new {v v' u : Value} {W : World} {L : List Tr} (h : Ap v u) (hu : Row kT 42 W B u L) (hat : ∀ k, v'.ownBlock = some k → v.ownBlock = some k ∨ W.heap.size ≤ k) : Ap v' u := fun k h1 h2 => by
  rcases hat k h1 with h3 | h3
  · exact h k h3 h2
  · have := (hu.block_lt k h2).2; omega

/-- The first one grows. -/
theorem Four.grow (h : Four W B v1 L1 v2 L2 v3 L3 v4 L4) (hg : W.grownBy W' v1.ownBlock) {v' : Value} {L' : List Tr} (hr : Row kT 42 W' B v' L') (hat : ∀ k, v'.ownBlock = some k → v1.ownBlock = some k ∨ W.heap.size ≤ k) :
    Four W' B v' L' v2 L2 v3 L3 v4 L4 :=
  ⟨hr, h.r2.grown hg (fun k h1 h2 => h.a12 k h2 h1), h.r3.grown hg (fun k h1 h2 => h.a13 k h2 h1), h.r4.grown hg (fun k h1 h2 => h.a14 k h2 h1),
    ap_new h.a12 h.r2 hat, ap_new h.a13 h.r3 hat, ap_new h.a14 h.r4 hat, h.a23, h.a24, h.a34⟩
/-- The first one is new. -/
theorem Four.fresh (h : Four W B v1 L1 v2 L2 v3 L3 v4 L4) (hb : Below W.heap.size W W') {v' : Value} {L' : List Tr} (hr : Row kT 42 W' W.heap.size v' L') (hB : B ≤ W.heap.size) : Four W' B v' L' v2 L2 v3 L3 v4 L4 := by
  have hat : ∀ (u : Value) (L : List Tr), Row kT 42 W B u L → Ap v' u := fun u L hu k h1 h2 => by
    have := (hr.block_lt k h1).1
    have := (hu.block_lt k h2).2
    omega
  exact ⟨hr.mono hB, h.r2.below hb, h.r3.below hb, h.r4.below hb, hat _ _ h.r2, hat _ _ h.r3, hat _ _ h.r4, h.a23, h.a24, h.a34⟩

/-- A list that has an element, and what lies ahead of it, and behind. -/
theorem Row.parts {L : List Tr} {v : Value} (h : Row kT 42 W B v L) {i : Nat} (hi : i < L.length) :
    ∃ g cap, v = .slice (some ⟨g, 0, none⟩) L.length cap ∧ L.length ≤ cap ∧ cap ≤ maxLen ∧ Row kT 42 W B (.slice (some ⟨g, 0, none⟩) i i) (L.take i) ∧
      ∀ off, (i + 1 < L.length → off = (i + 1) * 4) → Lies kT W (some ⟨g, off, none⟩) (cap - (i + 1)) (L.drop (i + 1)) := by
  have key : ∀ g cap, v = .slice (some ⟨g, 0, none⟩) L.length cap → L.length ≤ cap → cap ≤ maxLen → B ≤ g → Lies kT W (some ⟨g, 0, none⟩) cap L → g < W.heap.size → ∃ g cap, v = .slice (some ⟨g, 0, none⟩) L.length cap ∧ L.length ≤ cap ∧ cap ≤ maxLen ∧ Row kT 42 W B (.slice (some ⟨g, 0, none⟩) i i) (L.take i) ∧
      ∀ off, (i + 1 < L.length → off = (i + 1) * 4) → Lies kT W (some ⟨g, off, none⟩) (cap - (i + 1)) (L.drop (i + 1)) := by
    intro g cap hv hc hm hg hl hlt
    have hle := hl.len
    have hcell : ∀ j u, (kT.flat L)[j]? = some u → W.cell? ⟨g, j, none⟩ = some u := by
      rcases hl.at' with h0 | ⟨b, off, ha, -, hc⟩
      · subst h0; simp at hi
      · cases ha; intro j u hj; have := hc j u hj; rwa [Nat.zero_add] at this
    have ht : (L.take i).length = i := by simp; omega
    refine ⟨g, cap, hv, hc, hm, ?_, fun off hoff => ⟨by simp; omega, (fun h => by cases h), ?_⟩⟩
    · have := Row.full (K := kT) (e := 42) (w := W) (base := B) g (L.take i) hg ⟨by rw [ht]; omega, (fun h => by cases h), Or.inr ⟨g, 0, rfl, hlt, fun j u hj => by
        rw [Nat.zero_add]
        rw [← kT.flat_take, List.getElem?_take] at hj
        split at hj
        · exact hcell j u hj
        · cases hj⟩⟩ hlt
      rwa [ht] at this
    · by_cases h1 : i + 1 < L.length
      · have := hoff h1
        subst this
        refine Or.inr ⟨g, (i + 1) * 4, rfl, hlt, fun j u hj => ?_⟩
        rw [← kT.flat_drop, List.getElem?_drop] at hj
        exact hcell _ _ hj
      · exact Or.inl (List.drop_eq_nil_of_le (by omega))
  rcases h with ⟨rfl, rfl⟩ | h | ⟨g, rfl, hg, hl, hlt⟩
  · simp at hi
  · rcases h.2 with ⟨-, hn⟩ | ⟨g, cap, cur, rfl, hg, hh, hn, hm, hc, hx⟩
    · omega
    · obtain ⟨a', cap', h1, h2, -, -, -⟩ := lies_of_owns h
      obtain ⟨rfl, -, rfl⟩ := Value.slice.inj h1
      exact key g cap rfl hn hm hg h2 (lt_of_block hh)
  · exact key g L.length rfl (Nat.le_refl _) hl.len hg hl hlt
end Go.Proofs.Ytffgglkobngddab.Po
