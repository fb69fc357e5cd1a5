import Derived.Laws.AppendOwnNone
import Derived.Maps.AppendAt
import Derived.ArgAppend
import Derived.WalkSmall
import Derived.WalkLawsBesides
import Derived.WalkSpells
import Derived.WalkKit
import Derived.Deep.Slices
import Derived.SizedLaws
import Derived.ChangeOld
import Derived.OpenShut
import Derived.ProofKit
import Derived.Test.YtofcnebekmjdoaaGreatDoorChecked
set_option maxHeartbeats 4000000
set_option maxRecDepth 100000
namespace Go.Proofs.YtofcnebekmjdoaaGreatDoor.Gn
open RowKit
structure Am (α : Type) where
 cells : α → List Value
 size : Nat
 len : ∀ x, (cells x).length = size
 one : ∀ x, ∀ u ∈ cells x, u.oneCell' = true
 pos : 0 < size
variable {α : Type}
def Am.flat (K : Am α) (L : List α) : List Value := L.flatMap K.cells
theorem Am.flat_cons (K : Am α) (x : α) (L : List α) : K.flat (x :: L) = K.cells x ++ K.flat L := rfl
theorem Am.flat_append (K : Am α) (L M : List α) : K.flat (L ++ M) = K.flat L ++ K.flat M := by unfold Am.flat; simp
theorem Am.flat_one (K : Am α) (x : α) : K.flat [x] = K.cells x := by unfold Am.flat; simp
theorem Am.flat_length (K : Am α) (L : List α) : (K.flat L).length = L.length * K.size := by
 induction L with
 | nil => simp [Am.flat]
 | cons x r ih => rw [K.flat_cons, List.length_append, K.len, ih, List.length_cons, Nat.add_mul]; omega
theorem Am.flat_ones (K : Am α) (L : List α) : ∀ u ∈ K.flat L, u.oneCell' = true := by
 intro u hu
 unfold Am.flat at hu
 obtain ⟨x, -, hx⟩ := List.mem_flatMap.1 hu
 exact K.one x u hx
theorem Am.flat_at (K : Am α) {L : List α} {i : Nat} {x : α} (h : L[i]? = some x) {j : Nat} {u : Value} (hj : (K.cells x)[j]? = some u) : (K.flat L)[i * K.size + j]? = some u := by
 induction L generalizing i with
 | nil => simp at h
 | cons y r ih =>
  rw [K.flat_cons]
  cases i with
  | zero =>
   simp at h; subst h
   have : j < (K.cells y).length := (List.getElem?_eq_some_iff.1 hj).1
   rw [Nat.zero_mul, Nat.zero_add, List.getElem?_append_left this]; exact hj
  | succ i =>
   have h' : r[i]? = some x := by simpa using h
   rw [List.getElem?_append_right (by rw [K.len, Nat.add_mul]; omega), K.len, Nat.add_mul, show i * K.size + 1 * K.size + j - K.size = i * K.size + j by omega]
   exact ih h'
structure Lies (K : Am α) (w : World) (a : Option Addr) (cap : Nat) (L : List α) : Prop where
 len : L.length ≤ maxLen
 nil : a = none → cap = 0
 at' : L = [] ∨ ∃ b off, a = some ⟨b, off, none⟩ ∧ b < w.heap.size ∧ ∀ j u, (K.flat L)[j]? = some u → w.cell? ⟨b, off + j, none⟩ = some u
theorem Lies.none_nil {K : Am α} {w : World} {cap : Nat} {L : List α} (h : Lies K w none cap L) : L = [] := by
 rcases h.at' with h | ⟨b, off, h, -⟩
 ·exact h
 ·cases h
theorem lies_nil (K : Am α) (w : World) : Lies K w none 0 [] := ⟨by simp [maxLen], fun _ => rfl, Or.inl rfl⟩
def Past (B : Nat) (a : Option Addr) : Prop := ∀ ad, a = some ad → B ≤ ad.block
theorem past_none (B : Nat) : Past B none := fun _ h => by cases h
theorem Lies.keep {K : Am α} {w w' : World} {a : Option Addr} {cap : Nat} {L : List α} (h : Lies K w a cap L) (hs : w.heap.size ≤ w'.heap.size) (hk : ∀ ad, a = some ad → ad.block < w.heap.size → w'.heap[ad.block]? = w.heap[ad.block]?) : Lies K w' a cap L := by
 refine ⟨h.len, h.nil, ?_⟩
 rcases h.at' with h0 | ⟨b, off, ha, hlt, hc⟩
 ·exact Or.inl h0
 ·refine Or.inr ⟨b, off, ha, Nat.lt_of_lt_of_le hlt hs, fun j u hj => ?_⟩
  rw [← hc j u hj]
  exact World.cell?_of_block (a := ⟨b, off + j, none⟩) (hk ⟨b, off, none⟩ ha hlt)
theorem Lies.below {K : Am α} {w w' : World} {a : Option Addr} {cap : Nat} {L : List α} (h : Lies K w a cap L) (hb : Below w.heap.size w w') : Lies K w' a cap L :=
 h.keep hb.size fun _ _ hlt => hb.block _ hlt
theorem Lies.set {K : Am α} {w : World} {a : Option Addr} {cap : Nat} {L : List α} (h : Lies K w a cap L) {B : Nat} (hp : Past B a) {p : Addr} (hb : p.block < B) (v : Value) : Lies K (w.setCell p v) a cap L :=
 h.keep (by simp) fun ad ha _ => heap_setCell_other _ _ _ _ (by have := hp ad ha; omega)
theorem Lies.elem {K : Am α} {w : World} {a : Option Addr} {cap : Nat} {L : List α} (h : Lies K w a cap L) {i : Nat} {x : α} (hx : L[i]? = some x) :
  ∃ b off, a = some ⟨b, off, none⟩ ∧ b < w.heap.size ∧ ∀ j u, (K.cells x)[j]? = some u → w.cell? ⟨b, off + i * K.size + j, none⟩ = some u := by
 rcases h.at' with h0 | ⟨b, off, ha, hlt, hc⟩
 ·subst h0; simp at hx
 ·exact ⟨b, off, ha, hlt, fun j u hj => by have := hc _ _ (K.flat_at hx hj); rwa [← Nat.add_assoc] at this⟩
theorem addr_add (b off j : Nat) : (⟨b, off, none⟩ : Addr).add j = ⟨b, off + j, none⟩ := by
 unfold Addr.add; by_cases hj : j = 0 <;> simp [hj]
theorem Lies.cells {K : Am α} {w : World} {ad : Addr} {cap : Nat} {L : List α} (h : Lies K w (some ad) cap L) : ∀ j u, (K.flat L)[j]? = some u → w.cell? (ad.add j) = some u := by
 intro j u hj
 rcases h.at' with rfl | ⟨b, off, ha, -, hc⟩
 ·simp [Am.flat] at hj
 ·cases ha; rw [addr_add]; exact hc j u hj
def Row (K : Am α) (e : TypeId) (w : World) (base : Nat) (v : Value) (L : List α) : Prop :=
 (v = .slice none 0 0 ∧ L = []) ∨ w.ownsRow base e K.size v L.length (K.flat L) ∨
 ∃ g, v = .slice (some ⟨g, 0, none⟩) L.length L.length ∧ base ≤ g ∧ Lies K w (some ⟨g, 0, none⟩) L.length L ∧ g < w.heap.size
theorem Row.nil {K : Am α} {e : TypeId} {w : World} {base : Nat} : Row K e w base (.slice none 0 0) [] := Or.inl ⟨rfl, rfl⟩
theorem Row.own {K : Am α} {e : TypeId} {w : World} {base : Nat} (v : Value) (L : List α) (h : w.ownsRow base e K.size v L.length (K.flat L)) : Row K e w base v L := Or.inr (Or.inl h)
theorem Row.full {K : Am α} {e : TypeId} {w : World} {base : Nat} (g : Nat) (L : List α) (hg : base ≤ g) (hl : Lies K w (some ⟨g, 0, none⟩) L.length L) (hlt : g < w.heap.size) : Row K e w base (.slice (some ⟨g, 0, none⟩) L.length L.length) L :=
 Or.inr (Or.inr ⟨g, rfl, hg, hl, hlt⟩)
theorem lies_of_owns {K : Am α} {e : TypeId} {w : World} {base : Nat} {v : Value} {L : List α} (h : w.ownsRow base e K.size v L.length (K.flat L)) :
  ∃ a cap, v = .slice a L.length cap ∧ Lies K w a cap L ∧ Past base a ∧ (a = none → L = []) ∧ ∀ ad, a = some ad → ad.block < w.heap.size := by
 rcases h.2 with ⟨rfl, hn⟩ | ⟨g, cap, cur, rfl, hg, hh, hn, hm, hc, hx⟩
 ·have hL : L = [] := List.eq_nil_of_length_eq_zero hn
  subst hL
  exact ⟨none, 0, rfl, lies_nil K w, past_none _, fun _ => rfl, fun _ h => by cases h⟩
 ·have hlt : g < w.heap.size := lt_of_block hh
  refine ⟨some ⟨g, 0, none⟩, cap, rfl, ⟨Nat.le_trans hn hm, (fun h => by cases h), Or.inr ⟨g, 0, rfl, hlt, fun j u hj => ?_⟩⟩, (fun _ h => by cases h; exact hg), (fun h => by cases h), fun _ h => by cases h; exact hlt⟩
  rw [Nat.zero_add, cell_of_row w g j cur e _ hh]
  rw [← hx, List.getElem?_take] at hj
  split at hj
  ·simpa using hj
  ·cases hj
theorem Row.lies {K : Am α} {e : TypeId} {w : World} {base : Nat} {v : Value} {L : List α} (h : Row K e w base v L) :
  ∃ a cap, v = .slice a L.length cap ∧ Lies K w a cap L ∧ Past base a ∧ ∀ ad, a = some ad → ad.block < w.heap.size := by
 rcases h with ⟨rfl, rfl⟩ | h | ⟨g, rfl, hg, hl, hlt⟩
 ·exact ⟨none, 0, rfl, lies_nil K w, past_none _, fun _ h => by cases h⟩
 ·obtain ⟨a, cap, h1, h2, h3, -, h4⟩ := lies_of_owns h
  exact ⟨a, cap, h1, h2, h3, h4⟩
 ·exact ⟨_, _, rfl, hl, (fun _ h => by cases h; exact hg), fun _ h => by cases h; exact hlt⟩
theorem Row.block_lt {K : Am α} {e : TypeId} {w : World} {base : Nat} {v : Value} {L : List α} (h : Row K e w base v L) : ∀ k, v.ownBlock = some k → base ≤ k ∧ k < w.heap.size := by
 rcases h with ⟨rfl, rfl⟩ | h | ⟨g, rfl, hg, hl, hlt⟩
 ·intro k hk; cases hk
 ·exact fun k hk => h.lt k hk
 ·intro k hk; cases hk; exact ⟨hg, hlt⟩
theorem Row.mono {K : Am α} {e : TypeId} {w : World} {base base' : Nat} {v : Value} {L : List α} (h : Row K e w base v L) (hb : base' ≤ base) : Row K e w base' v L := by
 rcases h with ⟨rfl, rfl⟩ | h | ⟨g, rfl, hg, hl, hlt⟩
 ·exact .nil
 ·refine .own _ _ ⟨h.1, ?_⟩
  rcases h.2 with h0 | ⟨g, cap, cur, hv, hg, r⟩
  ·exact Or.inl h0
  ·exact Or.inr ⟨g, cap, cur, hv, Nat.le_trans hb hg, r⟩
 ·exact .full g L (Nat.le_trans hb hg) hl hlt
theorem Row.keep {K : Am α} {e : TypeId} {w w' : World} {base : Nat} {v : Value} {L : List α} (h : Row K e w base v L) (hs : w.heap.size ≤ w'.heap.size) (hk : ∀ k, v.ownBlock = some k → k < w.heap.size → w'.heap[k]? = w.heap[k]?) : Row K e w' base v L := by
 rcases h with ⟨rfl, rfl⟩ | h | ⟨g, rfl, hg, hl, hlt⟩
 ·exact .nil
 ·refine .own _ _ ⟨h.1, ?_⟩
  rcases h.2 with h0 | ⟨g, cap, cur, rfl, hg, hh, r⟩
  ·exact Or.inl h0
  ·exact Or.inr ⟨g, cap, cur, rfl, hg, (hk g rfl (lt_of_block hh)).trans hh, r⟩
 ·exact .full g L hg (hl.keep hs fun ad ha hlt => hk ad.block (by cases ha; rfl) hlt) (by omega)
theorem Row.below {K : Am α} {e : TypeId} {w w' : World} {base : Nat} {v : Value} {L : List α} (h : Row K e w base v L) (hb : Below w.heap.size w w') : Row K e w' base v L :=
 h.keep hb.size fun k _ hlt => hb.block k hlt
theorem Row.grown {K : Am α} {e : TypeId} {w w' : World} {base : Nat} {v : Value} {L : List α} (h : Row K e w base v L) {row : Option Nat} (hg : w.grownBy w' row) (hr : ∀ k, v.ownBlock = some k → row ≠ some k) : Row K e w' base v L :=
 h.keep hg.size fun k hk hlt => hg.block k hlt fun h => hr k hk h.symm
theorem Lies.grown {K : Am α} {w w' : World} {a : Option Addr} {cap : Nat} {L : List α} (h : Lies K w a cap L) {row : Option Nat} (hg : w.grownBy w' row) (hr : ∀ ad, a = some ad → row ≠ some ad.block) : Lies K w' a cap L :=
 h.keep hg.size fun ad ha hlt => hg.block _ hlt fun h => hr ad ha h.symm
structure Elem (P : Program) (K : Am α) (t e : TypeId) (bytes : Nat) : Prop where
 under : P.underlying t = some (.slice e)
 info : ∃ i z, P.info? e = some i ∧ i.zero = some z ∧ i.size = K.size ∧ i.bytes = bytes ∧ z.cells.size = K.size
theorem run_append {P : Program} {K : Am α} {t e : TypeId} {bytes : Nat} (E : Elem P K t e bytes) (w : World) (ty : TypeId) (base : Nat) (v : Value) (L : List α) (hv : Row K e w base v L)
  (a : Option Addr) (m c : Nat) (M : List α) (hm : m = M.length) (hM : Lies K w a c M) (h63 : L.length + M.length ≤ maxLen) (hbytes : (L.length + M.length) * bytes ≤ 140737488355328) (hbase : base ≤ w.heap.size) :
  ∃ v' w', (Builtin.append_ #[t, t] ty #[v, .slice a m c]).run P w = .ok v' w' ∧ Row K e w' base v' (L ++ M) ∧ w.grownBy w' v.ownBlock ∧ (∀ k, v'.ownBlock = some k → v.ownBlock = some k ∨ w.heap.size ≤ k) ∧
   (M ≠ [] → w'.ownsRow base e K.size v' (L ++ M).length (K.flat (L ++ M))) := by
 obtain ⟨ht, i, z, hi, hz, hsz, hby, hzs⟩ := E
 subst hm
 have hmz := K.pos
 -- the list that is appended to, as an owned row
 have ofOwn : ∀ v, w.ownsRow base e K.size v L.length (K.flat L) → ∃ v' w', (Builtin.append_ #[t, t] ty #[v, .slice a M.length c]).run P w = .ok v' w' ∧ Row K e w' base v' (L ++ M) ∧ w.grownBy w' v.ownBlock ∧ (∀ k, v'.ownBlock = some k → v.ownBlock = some k ∨ w.heap.size ≤ k) ∧
   (M ≠ [] → w'.ownsRow base e K.size v' (L ++ M).length (K.flat (L ++ M))) := by
  intro v hown
  cases a with
  | none =>
   have h0 := hM.none_nil
   subst h0
   obtain rfl := hM.nil rfl
   have hr := run_append_owned_none (P := P) w base t ty e i K.size ht hi v _ _ hown
   exact ⟨v, w, hr, by rw [List.append_nil]; exact .own v L hown, World.grownBy.refl _ _, fun _ h => Or.inl h, fun h => absurd rfl h⟩
  | some ad =>
   obtain ⟨v', w', hr, h2, h3, -, h5⟩ := run_append_own_at (P := P) w base t ty e i z K.size bytes ht hi hz hsz hby hzs hmz v L.length (K.flat L) hown ad M.length c (K.flat M) (K.flat_length M) hM.cells (K.flat_ones M) h63 hbytes hbase
   have h2' : w'.ownsRow base e K.size v' (L ++ M).length (K.flat (L ++ M)) := by rw [List.length_append, K.flat_append]; exact h2
   have h6 : ∀ k, v'.ownBlock = some k → v.ownBlock = some k ∨ w.heap.size ≤ k := by
    intro k hk
    rcases h5 with h5 | h5
    ·rw [h5] at hk; exact Or.inl hk
    ·rw [h5] at hk; cases hk; exact Or.inr (Nat.le_refl _)
   exact ⟨v', w', hr, .own v' _ h2', h3, h6, fun _ => h2'⟩
 rcases hv with ⟨rfl, rfl⟩ | h | ⟨g, rfl, hg, hl, hlt⟩
 ·exact ofOwn _ (World.ownsRow_nil _ _ _ _)
 ·exact ofOwn v h
 ·cases a with
  | none =>
   have h0 := hM.none_nil
   subst h0
   obtain rfl := hM.nil rfl
   refine ⟨_, w, ?_, by rw [List.append_nil]; exact .full g L hg hl hlt, World.grownBy.refl _ _, fun _ h => Or.inl h, fun h => absurd rfl h⟩
   simp [Builtin.append_, run_underlying ht, sizeOf, typeInfo, hi, Builtin.lenOf, Builtin.firstCells, storeCells]
  | some ad =>
   by_cases h0 : M = []
   ·subst h0
    refine ⟨_, w, ?_, by rw [List.append_nil]; exact .full g L hg hl hlt, World.grownBy.refl _ _, fun _ h => Or.inl h, fun h => absurd rfl h⟩
    simp [Builtin.append_, run_underlying ht, sizeOf, typeInfo, hi, Builtin.lenOf, Builtin.firstCells, storeCells, loadCells, loadCellsFrom]
   ·have hpos : 0 < M.length := by cases M with
     | nil => exact absurd rfl h0
     | cons x r => simp
    obtain ⟨v', w', hr, h2, h3⟩ := run_append_arg_grows (P := P) w t ty e i z K.size bytes ht hi hz hsz hby hzs hmz ⟨g, 0, none⟩ L.length L.length (K.flat L) (K.flat_length L) hl.cells ad M.length c (K.flat M) (K.flat_length M) hM.cells (by omega) h63 hbytes
    have h2' : w'.ownsRow w.heap.size e K.size v' (L ++ M).length (K.flat (L ++ M)) := by rw [List.length_append, K.flat_append]; exact h2
    have h2'' : w'.ownsRow base e K.size v' (L ++ M).length (K.flat (L ++ M)) := by
     refine ⟨h2'.1, ?_⟩
     rcases h2'.2 with h0 | ⟨g, cap, cur, hv, hg, r⟩
     ·exact Or.inl h0
     ·exact Or.inr ⟨g, cap, cur, hv, Nat.le_trans hbase hg, r⟩
    have hgr : w.grownBy w' (Value.ownBlock (.slice (some ⟨g, 0, none⟩) L.length L.length)) := ⟨h3.os, h3.tape, h3.output, h3.size, fun k hk _ => h3.block k hk (by simp)⟩
    exact ⟨v', w', hr, .own v' _ h2'', hgr, fun k hk => Or.inr (h2'.lt k hk).1, fun _ => h2''⟩
theorem wp_append {P : Program} {K : Am α} {t e : TypeId} {bytes : Nat} (E : Elem P K t e bytes) (w : World) {o : Oper} {a : Act} {Kk : Act → World → Prop} {Q : Exit → Act → World → Prop} (s x : Operand)
  (ho : o.op = .call { callee := .builtin .append, args := #[s, x], argTypes := #[t, t] }) (base : Nat) (v : Value) (L : List α) (hs : a.eval s = v) (hv : Row K e w base v L)
  (ad : Option Addr) (m c : Nat) (M : List α) (hx : a.eval x = .slice ad m c) (hm : m = M.length) (hM : Lies K w ad c M) (h63 : L.length + M.length ≤ maxLen) (hbytes : (L.length + M.length) * bytes ≤ 140737488355328) (hbase : base ≤ w.heap.size)
  (h : ∀ v' w', Row K e w' base v' (L ++ M) → w.grownBy w' v.ownBlock → (∀ k, v'.ownBlock = some k → v.ownBlock = some k ∨ w.heap.size ≤ k) → (M ≠ [] → w'.ownsRow base e K.size v' (L ++ M).length (K.flat (L ++ M))) → Kk (a.put o.dst v') w') : o.wp P a w Kk Q := by
 obtain ⟨v', w', hr, h2, h3, h4, h5⟩ := run_append E w o.type base v L hv ad m c M hm hM h63 hbytes hbase
 unfold Oper.wp execOp
 simp only [ho, resolve, invoke, builtin, Sem.run_bind, Sem.run_pure, Result.andThen_ok, List.map_toArray, List.map_cons, List.map_nil, hs, hx, hr]
 exact h v' w' h2 h3 h4 h5
theorem Ai {P : Program} {K : Am α} {t e : TypeId} {bytes : Nat} (E : Elem P K t e bytes) (w : World) {ops : Array Oper} {rest : List Oper} {o : Oper} {a : Act} {Q : Exit → Act → World → Prop} (hgd : o.guard = none) (s x : Operand)
  (ho : o.op = .call { callee := .builtin .append, args := #[s, x], argTypes := #[t, t] }) (base : Nat) (v : Value) (L : List α) (hs : a.eval s = v) (hv : Row K e w base v L)
  (ad : Option Addr) (m c : Nat) (M : List α) (hx : a.eval x = .slice ad m c) (hm : m = M.length) (hM : Lies K w ad c M) (h63 : L.length + M.length ≤ maxLen) (hbytes : (L.length + M.length) * bytes ≤ 140737488355328) (hbase : base ≤ w.heap.size)
  (h : ∀ v' w', Row K e w' base v' (L ++ M) → w.grownBy w' v.ownBlock → (∀ k, v'.ownBlock = some k → v.ownBlock = some k ∨ w.heap.size ≤ k) → (M ≠ [] → w'.ownsRow base e K.size v' (L ++ M).length (K.flat (L ++ M))) → wpList P ops Q rest (a.put o.dst v') w') : wpList P ops Q (o :: rest) a w :=
 wpList_plain hgd fun _ hK => wp_append E w s x ho base v L hs hv ad m c M hx hm hM h63 hbytes hbase fun v' w' h2 h3 h4 h5 => hK _ _ (h v' w' h2 h3 h4 h5)
theorem Ft {P : Program} {K : Am α} {t e : TypeId} {bytes : Nat} (E : Elem P K t e bytes) (w : World) {ops : Array Oper} {o : Oper} {a : Act} {Kk : Act → World → Prop} {Q : Exit → Act → World → Prop} {F : Prop} (hgd : o.guard = none) (s x : Operand)
  (ho : o.op = .call { callee := .builtin .append, args := #[s, x], argTypes := #[t, t] }) (base : Nat) (v : Value) (L : List α) (hs : a.eval s = v) (hv : Row K e w base v L)
  (ad : Option Addr) (m c : Nat) (M : List α) (hx : a.eval x = .slice ad m c) (hm : m = M.length) (hM : Lies K w ad c M) (h63 : L.length + M.length ≤ maxLen) (hbytes : (L.length + M.length) * bytes ≤ 140737488355328) (hbase : base ≤ w.heap.size)
  (h : ∀ v' w', Row K e w' base v' (L ++ M) → w.grownBy w' v.ownBlock → (∀ k, v'.ownBlock = some k → v.ownBlock = some k ∨ w.heap.size ≤ k) → (M ≠ [] → w'.ownsRow base e K.size v' (L ++ M).length (K.flat (L ++ M))) → Kk (a.put o.dst v') w') :
  if Region.wanted o (yielded ops a.tmps) = true then Oper.wp P o a w Kk Q else F := by
 rw [if_pos (show Region.wanted o (yielded ops a.tmps) = true by simp [Region.wanted, hgd])]
 exact wp_append E w s x ho base v L hs hv ad m c M hx hm hM h63 hbytes hbase h
theorem Da {K : Am α} {w : World} {b : Nat} {x : α} {t : TypeId} {cs : Array Value} (h : w.heap[b]? = some (.cells cs t)) (hc : cs.toList = K.cells x) (c : Nat) : Lies K w (some ⟨b, 0, none⟩) c [x] := by
 refine ⟨by simp [maxLen], (fun h => by cases h), Or.inr ⟨b, 0, rfl, lt_of_block h, fun j u hj => ?_⟩⟩
 rw [K.flat_one, ← hc] at hj
 rw [Nat.zero_add, cell_of_row w b j cs t _ h]
 simpa using hj
theorem below_alloc (w : World) (o : Obj) : Below w.heap.size w (w.alloc o) := (Below.refl _ _).alloc (Nat.le_refl _) o
theorem heap_alloc_at (w : World) (o : Obj) (k : Nat) (h : k = w.heap.size) : (w.alloc o).heap[k]? = some o := by
 subst h; exact heap_alloc_new w o
theorem Row.alloc {K : Am α} {e : TypeId} {w : World} {base : Nat} {v : Value} {L : List α} (h : Row K e w base v L) (o : Obj) : Row K e (w.alloc o) base v L := h.below (below_alloc w o)
theorem Lies.alloc {K : Am α} {w : World} {a : Option Addr} {cap : Nat} {L : List α} (h : Lies K w a cap L) (o : Obj) : Lies K (w.alloc o) a cap L := h.below (below_alloc w o)
theorem Row.drew {K : Am α} {e : TypeId} {w : World} {base : Nat} {v : Value} {L : List α} (h : Row K e w base v L) : Row K e w.drew base v L := h.keep (Nat.le_refl _) fun _ _ _ => rfl
theorem Lies.drew {K : Am α} {w : World} {a : Option Addr} {cap : Nat} {L : List α} (h : Lies K w a cap L) : Lies K w.drew a cap L := h.keep (Nat.le_refl _) fun _ _ _ => rfl
theorem Cv {B : Nat} {w w1 w2 : World} {v : Value} {K : Am α} {e : TypeId} {base : Nat} {L : List α} (hb : Below B w w1) (hg : w1.grownBy w2 v.ownBlock) (hv : Row K e w1 base v L) (h1 : B ≤ base) (h2 : B ≤ w1.heap.size) : Below B w w2 :=
 hb.grown hg h2 (fun k hk => Nat.le_trans h1 (hv.block_lt k hk).1)
open ChangeShapes WideShapes ChangeAt RowKit
theorem own : ownKnob Tryz.prog.godebug = none := by kernel_rfl
theorem laidOut : laidOutB Tryz.prog = true := by kernel_rfl
theorem cellsInt : Tryz.prog.cellsOf 3 = 1 := by kernel_rfl
theorem at_some {α : Type} {xs : List α} {n i : Nat} (h : xs.length = n) (hi : i < n) : ∃ y, xs[i]? = some y := ⟨xs[i], List.getElem?_eq_getElem (by omega)⟩
theorem wf_i64 {k : Int} (h : (Lit.int .i64 k).wf = true) : -9223372036854775808 ≤ k ∧ k ≤ 9223372036854775807 := by
 simp only [Lit.wf, IntKind.min, IntKind.max, IntKind.signed, IntKind.bits, Bool.and_eq_true, decide_eq_true_eq, if_true] at h
 omega
theorem Fj {H : Type} {enc : TypeId × Value → H} {W : World} {base : Nat} {spare : Nat → Bool} {held : Bool} {n i : Nat} {v : Value} {xs : List (DataW H × List MemPlace)} {m : Nat}
  (h : DataW.trod enc Tryz.prog W base spare held n 3 [v] = xs[i]?) (hl : xs.length = m) (hi : i < m) : ∃ k : Int, v = .int .i64 k ∧ -9223372036854775808 ≤ k ∧ k ≤ 9223372036854775807 := by
 obtain ⟨y, hy⟩ := at_some hl hi
 obtain ⟨k, e, _, hw⟩ := DataW.trod_int Tryz.underlying3 (h.trans hy)
 exact ⟨k, by simpa using e, wf_i64 hw⟩
theorem open_list {α : Type} (dflt : α) {H : Type} {enc : TypeId × Value → H} {W : World} {base : Nat} {spare : Nat → Bool} {held : Bool} (K : Am α) (good : α → Prop) {t e : TypeId} (ht : Tryz.prog.underlying t = some (.slice e)) (hc : Tryz.prog.cellsOf e = K.size)
  (hel : ∀ n cs x, DataW.trod enc Tryz.prog W base spare held n e cs = some x → ∃ y : α, cs = K.cells y ∧ good y)
  {fuel : Nat} {a : Option Addr} {len cap : Nat} {x : DataW H × List MemPlace} (h : DataW.trod enc Tryz.prog W base spare held fuel t [.slice a len cap] = some x) :
  ∃ L : List α, len = L.length ∧ Lies K W a cap L ∧ (∀ y ∈ L, good y) ∧ (L.length = 0 ∨ ∃ es sp, x.1 = .slice es sp ∧ es.length = L.length) := by
 rcases Go.Deep.open_slice ht h with ⟨hcs, -⟩ | ⟨ad, l, c, m, n, D, Pl, hcs, -, hl, hm, hmm, hx, hD⟩
 ·simp at hcs
  obtain ⟨rfl, rfl, rfl⟩ := hcs
  exact ⟨[], rfl, lies_nil K W, (fun _ h => by cases h), Or.inl rfl⟩
 ·simp at hcs
  obtain ⟨rfl, rfl, rfl⟩ := hcs
  have hlm : len ≤ m := by rw [hmm]; split <;> omega
  have each : ∀ i, i < len → ∃ y : α, good y ∧ ∀ j u, (K.cells y)[j]? = some u → W.cell? (ad.add (i * K.size + j)) = some u := fun i hi => by
   obtain ⟨cs, h1, h2⟩ := hD i (by omega)
   obtain ⟨y, rfl, hg⟩ := hel _ _ _ h2
   obtain ⟨_, hlen, hcell⟩ := World.cells?_some h1
   refine ⟨y, hg, fun j u hj => ?_⟩
   have hj' : j < K.size := by have := (List.getElem?_eq_some_iff.1 hj).1; rwa [K.len] at this
   have := hcell j (by omega)
   rw [Go.Deep.add_add, hc] at this
   rw [this]; exact hj
  obtain ⟨F, hF⟩ := @Go.Deep.choose_lt α ⟨dflt⟩ _ _ each
  have hlen : ((List.range len).map F).length = len := by simp
  refine ⟨(List.range len).map F, hlen.symm, ⟨by rw [hlen]; omega, (fun h => by cases h), ?_⟩, ?_, Or.inr ⟨_, _, by rw [hx], by simp⟩⟩
  ·by_cases h0 : len = 0
   ·subst h0; exact Or.inl rfl
   right
   have hne : ∃ u, (K.cells (F 0))[0]? = some u := at_some (K.len (F 0)) K.pos
   obtain ⟨u0, hu0⟩ := hne
   have hF0 := (hF 0 (by omega)).2 0 u0 hu0
   obtain ⟨b, off, spot⟩ := ad
   have hs : spot = none := by simpa [Addr.add] using World.cell?_spot hF0
   subst hs
   refine ⟨b, off, rfl, ?_, fun j u hj => ?_⟩
   ·rw [addr_add] at hF0; exact World.block_lt_of_cell? W _ hF0
   ·have hjl : j < len * K.size := by
     have := (List.getElem?_eq_some_iff.1 hj).1
     rw [K.flat_length, hlen] at this; exact this
    have hi : j / K.size < len := Nat.div_lt_of_lt_mul (by rw [Nat.mul_comm]; exact hjl)
    have hdm := Nat.div_add_mod j K.size
    have hat : ((List.range len).map F)[j / K.size]? = some (F (j / K.size)) := by simp [hi]
    have hmod : j % K.size < K.size := Nat.mod_lt _ K.pos
    obtain ⟨v, hv⟩ := at_some (K.len (F (j / K.size))) hmod
    have hj2 := K.flat_at hat hv
    have he : j / K.size * K.size + j % K.size = j := by rw [Nat.mul_comm]; exact hdm
    rw [he, hj] at hj2
    cases hj2
    have := (hF _ hi).2 _ _ hv
    rw [he, addr_add] at this
    exact this
  ·intro y hy
   obtain ⟨i, hi, rfl⟩ := List.mem_map.1 hy
   exact (hF i (List.mem_range.1 hi)).1
