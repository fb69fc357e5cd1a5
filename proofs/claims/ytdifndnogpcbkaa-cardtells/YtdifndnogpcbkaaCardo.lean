/- What a law's walk holds on to: the card that came in. -/
import Derived.Test.YtdifndnogpcbkaaCardb
namespace Go.Proofs.Ytdifndnogpcbkaa
open Go.RowKit

/-- What the walk holds on to: the card that came in, and all that is elder. -/
structure One (w : World) (c : Ca) (a : Option Addr) (cap : Nat) (W : World) : Prop where
  bel : Below w.heap.size w W
  box : CardAt W w.heap.size c a cap

theorem One.on {w W W' : World} {c : Ca} {a : Option Addr} {cap : Nat} (h : One w c a cap W) (hb : Below W.heap.size W W') : One w c a cap W' :=
  ⟨h.bel.trans (hb.mono h.bel.size), h.box.on hb⟩
theorem One.alloc {w W : World} {c : Ca} {a : Option Addr} {cap : Nat} (h : One w c a cap W) (o : Obj) : One w c a cap (W.alloc o) := h.on (below_alloc W o)
theorem one_new {w : World} {c : Ca} {a : Option Addr} {cap : Nat} (hL : Lies w a cap c.u) : One w c a cap (w.alloc (co c a cap)) := ⟨below_alloc _ _, card_new w c a cap hL⟩

theorem One.same {w W W' : World} {c : Ca} {a : Option Addr} {cap : Nat} (h : One w c a cap W) (e1 : W'.heap = W.heap) (e2 : W'.os = W.os) (e3 : W'.tape = W.tape) (e4 : W'.output = W.output) : One w c a cap W' :=
  h.on ⟨e2, e3, e4, by rw [e1]; exact Nat.le_refl _, fun k _ => by rw [e1]⟩
theorem One.call {w W W' w1 : World} {c : Ca} {a : Option Addr} {cap : Nat} (hb : Below W'.heap.size W' w1) (h : One w c a cap W) (e1 : W'.heap = W.heap) (e2 : W'.os = W.os) (e3 : W'.tape = W.tape) (e4 : W'.output = W.output) : One w c a cap w1 :=
  (h.same e1 e2 e3 e4).on hb
theorem One.lies {w W W' : World} {c : Ca} {a : Option Addr} {cap : Nat} (h : One w c a cap W) (e1 : W'.heap = W.heap) (e2 : W'.os = W.os) (e3 : W'.tape = W.tape) (e4 : W'.output = W.output) : Lies W' a cap c.u :=
  (h.same e1 e2 e3 e4).box.lies
/-- The cells that are read over and over. -/
theorem One.held {w W W' : World} {c : Ca} {a : Option Addr} {cap : Nat} (h : One w c a cap W) (e1 : W'.heap = W.heap) (e2 : W'.os = W.os) (e3 : W'.tape = W.tape) (e4 : W'.output = W.output) :
    W'.cell? ⟨w.heap.size, 0, none⟩ = some (.int .i64 c.m) ∧ W'.cell? ⟨w.heap.size, 1, none⟩ = some (.int .i64 c.h) ∧ W'.cell? ⟨w.heap.size, 2, none⟩ = some (.int .i64 c.p.t) ∧ W'.cell? ⟨w.heap.size, 3, none⟩ = some (.int .i64 c.p.c) ∧
    W'.cell? ⟨w.heap.size, 4, none⟩ = some (.int .i64 c.p.s) ∧ W'.cell? ⟨w.heap.size, 5, none⟩ = some (.slice a c.u.length cap) :=
  (h.same e1 e2 e3 e4).box.cells

theorem wrap64 {n : Int} (h1 : -9223372036854775808 ≤ n) (h2 : n ≤ 9223372036854775807) : IntKind.i64.wrap n = n := by
  simp [IntKind.wrap, IntKind.bits, IntKind.signed]
  omega
end Go.Proofs.Ytdifndnogpcbkaa
