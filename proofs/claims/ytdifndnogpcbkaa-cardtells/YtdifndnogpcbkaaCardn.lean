/- What the law CardTells holds on to: the card that came in, and two cards that are written anew. -/
import Derived.Test.YtdifndnogpcbkaaCardo
import Derived.Test.YtdifndnogpcbkaaCardc
namespace Go.Proofs.Ytdifndnogpcbkaa
open Go.RowKit

/-- A block that holds a card is written anew. -/
def put6 (W : World) (b : Nat) (c : Ca) (a : Option Addr) (cap : Nat) : World :=
  ((((((W.setCell ⟨b, 0, none⟩ (.int .i64 c.m)).setCell ⟨b, 1, none⟩ (.int .i64 c.h)).setCell ⟨b, 2, none⟩ (.int .i64 c.p.t)).setCell ⟨b, 3, none⟩ (.int .i64 c.p.c)).setCell ⟨b, 4, none⟩ (.int .i64 c.p.s)).setCell ⟨b, 5, none⟩ (.slice a c.u.length cap))

theorem put6_same {W : World} {b : Nat} {c : Ca} {a : Option Addr} {cap : Nat} (h : W.heap[b]? = some (co c a cap)) (c' : Ca) (a' : Option Addr) (cap' : Nat) : (put6 W b c' a' cap').heap[b]? = some (co c' a' cap') := co_put h c' a' cap'

theorem put6_other (W : World) (b k : Nat) (c' : Ca) (a' : Option Addr) (cap' : Nat) (h : k ≠ b) : (put6 W b c' a' cap').heap[k]? = W.heap[k]? := by
  unfold put6
  rw [heap_setCell_other _ ⟨b, 5, none⟩ _ _ h, heap_setCell_other _ ⟨b, 4, none⟩ _ _ h, heap_setCell_other _ ⟨b, 3, none⟩ _ _ h, heap_setCell_other _ ⟨b, 2, none⟩ _ _ h, heap_setCell_other _ ⟨b, 1, none⟩ _ _ h, heap_setCell_other _ ⟨b, 0, none⟩ _ _ h]

theorem put6_below {B : Nat} {w W : World} (hb : Below B w W) (b : Nat) (h : B ≤ b) (c' : Ca) (a' : Option Addr) (cap' : Nat) : Below B w (put6 W b c' a' cap') := by
  have h0 : B ≤ (⟨b, 0, none⟩ : Addr).block := h
  have h1 : B ≤ (⟨b, 1, none⟩ : Addr).block := h
  have h2 : B ≤ (⟨b, 2, none⟩ : Addr).block := h
  have h3 : B ≤ (⟨b, 3, none⟩ : Addr).block := h
  have h4 : B ≤ (⟨b, 4, none⟩ : Addr).block := h
  have h5 : B ≤ (⟨b, 5, none⟩ : Addr).block := h
  exact (((((hb.setCell h0 _).setCell h1 _).setCell h2 _).setCell h3 _).setCell h4 _).setCell h5 _

theorem put6_lies {W : World} {a : Option Addr} {cap : Nat} {L : List (Int × Int)} (h : Lies W a cap L) {S : Nat} (hp : Past S a) (b : Nat) (hb : b < S) (c' : Ca) (a' : Option Addr) (cap' : Nat) : Lies (put6 W b c' a' cap') a cap L := by
  have h0 : (⟨b, 0, none⟩ : Addr).block < S := hb
  have h1 : (⟨b, 1, none⟩ : Addr).block < S := hb
  have h2 : (⟨b, 2, none⟩ : Addr).block < S := hb
  have h3 : (⟨b, 3, none⟩ : Addr).block < S := hb
  have h4 : (⟨b, 4, none⟩ : Addr).block < S := hb
  have h5 : (⟨b, 5, none⟩ : Addr).block < S := hb
  exact (((((h.set hp h0 _).set hp h1 _).set hp h2 _).set hp h3 _).set hp h4 _).set hp h5 _

/-- A list of a call's own stays where it lies, and so does the list that came in. -/
theorem put6_tied {w W : World} {a0 : Option Addr} {cap0 : Nat} {u0 : List (Int × Int)} (hL : Lies w a0 cap0 u0) {a : Option Addr} {cap : Nat} {u : List (Int × Int)} (h : Lies W a cap u) {S : Nat} (ht : Tied S a0 u0 a u) (bel : Below w.heap.size w W)
    (b : Nat) (hb : b < S) (hw : w.heap.size ≤ b) (c' : Ca) (a' : Option Addr) (cap' : Nat) : Lies (put6 W b c' a' cap') a cap u := by
  rcases ht with hp | ⟨rfl, rfl⟩
  · exact put6_lies h hp b hb c' a' cap'
  · exact ⟨hL.ents.below (put6_below bel b hw c' a' cap'), h.nil⟩

structure Tri (w : World) (c : Ca) (a : Option Addr) (cap : Nat) (B D : Nat) (x : Ca) (a1 : Option Addr) (cap1 : Nat) (y : Ca) (a2 : Option Addr) (cap2 : Nat) (W : World) : Prop where
  one : One w c a cap W
  xb : W.heap[B]? = some (co x a1 cap1)
  yb : W.heap[D]? = some (co y a2 cap2)
  lt : w.heap.size < B
  lt2 : B < D

theorem Tri.ltx {w : World} {c : Ca} {a : Option Addr} {cap : Nat} {B D : Nat} {x : Ca} {a1 : Option Addr} {cap1 : Nat} {y : Ca} {a2 : Option Addr} {cap2 : Nat} {W : World} (h : Tri w c a cap B D x a1 cap1 y a2 cap2 W) : B < W.heap.size := lt_of_block h.xb
theorem Tri.lty {w : World} {c : Ca} {a : Option Addr} {cap : Nat} {B D : Nat} {x : Ca} {a1 : Option Addr} {cap1 : Nat} {y : Ca} {a2 : Option Addr} {cap2 : Nat} {W : World} (h : Tri w c a cap B D x a1 cap1 y a2 cap2 W) : D < W.heap.size := lt_of_block h.yb

theorem Tri.on {w : World} {c : Ca} {a : Option Addr} {cap : Nat} {B D : Nat} {x : Ca} {a1 : Option Addr} {cap1 : Nat} {y : Ca} {a2 : Option Addr} {cap2 : Nat} {W W' : World} (h : Tri w c a cap B D x a1 cap1 y a2 cap2 W) (hb : Below W.heap.size W W') : Tri w c a cap B D x a1 cap1 y a2 cap2 W' :=
  ⟨h.one.on hb, (hb.block _ h.ltx).trans h.xb, (hb.block _ h.lty).trans h.yb, h.lt, h.lt2⟩

theorem Tri.putx {w : World} {c : Ca} {a : Option Addr} {cap : Nat} {B D : Nat} {x : Ca} {a1 : Option Addr} {cap1 : Nat} {y : Ca} {a2 : Option Addr} {cap2 : Nat} {W : World} (h : Tri w c a cap B D x a1 cap1 y a2 cap2 W) (hL : Lies w a cap c.u) (x' : Ca) (a' : Option Addr) (cap' : Nat) :
    Tri w c a cap B D x' a' cap' y a2 cap2 (put6 W B x' a' cap') := by
  have l1 := h.lt
  have l2 := h.lt2
  have hb := put6_below h.one.bel B (by omega) x' a' cap'
  exact ⟨⟨hb, (put6_other W B w.heap.size x' a' cap' (by omega)).trans h.one.box.block, hL.below hb⟩, put6_same h.xb x' a' cap', (put6_other W B D x' a' cap' (by omega)).trans h.yb, l1, l2⟩

theorem Tri.puty {w : World} {c : Ca} {a : Option Addr} {cap : Nat} {B D : Nat} {x : Ca} {a1 : Option Addr} {cap1 : Nat} {y : Ca} {a2 : Option Addr} {cap2 : Nat} {W : World} (h : Tri w c a cap B D x a1 cap1 y a2 cap2 W) (hL : Lies w a cap c.u) (y' : Ca) (a' : Option Addr) (cap' : Nat) :
    Tri w c a cap B D x a1 cap1 y' a' cap' (put6 W D y' a' cap') := by
  have l1 := h.lt
  have l2 := h.lt2
  have hb := put6_below h.one.bel D (by omega) y' a' cap'
  exact ⟨⟨hb, (put6_other W D w.heap.size y' a' cap' (by omega)).trans h.one.box.block, hL.below hb⟩, (put6_other W D B y' a' cap' (by omega)).trans h.xb, put6_same h.yb y' a' cap', l1, l2⟩
end Go.Proofs.Ytdifndnogpcbkaa
