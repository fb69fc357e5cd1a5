import Derived.WalkKit
import Derived.WalkSpells
import Derived.WalkLawsBesides
import Derived.WalkSmall
import Derived.ArgAppend
import Derived.Maps.AppendAt
import Derived.Laws.AppendOwnNone
import Derived.Test.YtigiogjefnkpdaaGreatDoorChecked
import Derived.ProofKit
import Derived.OpenShut
import Derived.ChangeOld
import Derived.SizedLaws
import Derived.Deep.Slices
import Derived.KernelRfl
import Derived.Deep.QuietTactic
import Derived.BigQuiet
import Derived.Deep.RegionWith
import Derived.Deep.RegionLaw
import Derived.Deep.CutRange
import Derived.Deep.OwnRows
import Derived.Deep.RegionHeld3
import Derived.Laws.BytesString
import Derived.Maps.OwnOps
import Derived.Deep.RegionHeld
import Derived.Deep.MidRow
import Derived.Maps.OwnSet
import Derived.Test.YtigiogjefnkpdaaGreatDoorRows
import Derived.LaidMore
import Derived.Lay
import Derived.ChangeKeysEq
import Derived.Deep.CutBlock
namespace Go.Proofs.YtigiogjefnkpdaaGreatDoor
theorem ae:type_of% @Go.lt_of_block:=@Go.lt_of_block
theorem ai:type_of% @if_neg:=@if_neg
theorem aj:type_of% @Nat.le_refl:=@Nat.le_refl
theorem az:type_of% @List.setIfInBounds_toArray:=@List.setIfInBounds_toArray
theorem aA:type_of% @Go.bodyPost_ret:=@Go.bodyPost_ret
theorem aB:type_of% @if_pos:=@if_pos
theorem aD:type_of% @List.getElem_cons_zero:=@List.getElem_cons_zero
theorem aE:type_of% @List.getElem_cons_succ:=@List.getElem_cons_succ
theorem aF:type_of% @Go.heap_setCell_other:=@Go.heap_setCell_other
theorem aH:type_of% @List.getElem_toArray:=@List.getElem_toArray
theorem aN:type_of% @List.set_cons_succ:=@List.set_cons_succ
theorem aO:type_of% @List.set_cons_zero:=@List.set_cons_zero
theorem aR:type_of% @Go.RowKit.Below.setCell:=@Go.RowKit.Below.setCell
theorem aY:type_of% @Go.World.cell?_alloc_past:=@Go.World.cell?_alloc_past
theorem aZ:type_of% @Go.heap_setCell_same:=@Go.heap_setCell_same
theorem a_:type_of% @List.length_append:=@List.length_append
theorem bm:type_of% @Go.wp_region_held_drew:=@Go.wp_region_held_drew
theorem bp:type_of% @Nat.lt_of_lt_of_le:=@Nat.lt_of_lt_of_le
theorem bq:type_of% @Nat.zero_le:=@Nat.zero_le
theorem br:type_of% @Go.below_drewN:=@Go.below_drewN
theorem bA:type_of% @Go.wpAnyH_done:=@Go.wpAnyH_done
theorem bB:type_of% @Go.Value.slice.inj:=@Go.Value.slice.inj
theorem bC:type_of% @Go.RowKit.Below.heap_alloc:=@Go.RowKit.Below.heap_alloc
theorem bE:type_of% @Nat.le_trans:=@Nat.le_trans
theorem bN:type_of% @Int.toNat_natCast:=@Int.toNat_natCast
theorem bT:type_of% @List.mem_cons_self:=@List.mem_cons_self
theorem bZ:type_of% @List.eq_nil_of_length_eq_zero:=@List.eq_nil_of_length_eq_zero
theorem cd:type_of% @Go.World.cell?_alloc_at:=@Go.World.cell?_alloc_at
theorem cD:type_of% @decide_eq_false:=@decide_eq_false
theorem cL:type_of% @List.take_append_drop:=@List.take_append_drop
theorem cM:type_of% @List.drop_eq_nil_of_le:=@List.drop_eq_nil_of_le
theorem cR:type_of% @List.mem_cons_of_mem:=@List.mem_cons_of_mem
theorem cS:type_of% @Option.some.injEq:=@Option.some.injEq
theorem di:type_of% @List.length_cons:=@List.length_cons
theorem dr:type_of% @Nat.add_zero:=@Nat.add_zero
theorem dC:type_of% @List.nil_append:=@List.nil_append
theorem dF:type_of% @Go.World.frozen?_alloc_past:=@Go.World.frozen?_alloc_past
theorem dW:type_of% @Nat.zero_add:=@Nat.zero_add
theorem d_:type_of% @Go.World.ownsRow_nil:=@Go.World.ownsRow_nil
theorem ei:type_of% @List.filter_append:=@List.filter_append
theorem eE:type_of% @List.mem_of_mem_take:=@List.mem_of_mem_take
theorem eG:type_of% @Go.World.size_alloc:=@Go.World.size_alloc
theorem eH:type_of% @Go.heap_drew:=@Go.heap_drew
theorem eI:type_of% @Go.wpList_store_mid:=@Go.wpList_store_mid
theorem fc:type_of% @List.take_length:=@List.take_length
theorem fi:type_of% @List.append_assoc:=@List.append_assoc
theorem fs:type_of% @Nat.le_succ:=@Nat.le_succ
theorem fI:type_of% @List.length_singleton:=@List.length_singleton
theorem fQ:type_of% @decide_eq_true:=@decide_eq_true
theorem fY:type_of% @Go.AllReadyH.cons:=@Go.AllReadyH.cons
theorem gf:type_of% @List.take_of_length_le:=@List.take_of_length_le
theorem gj:type_of% @List.drop_eq_getElem_cons:=@List.drop_eq_getElem_cons
theorem gr:type_of% @Go.World.frozen?_alloc_at:=@Go.World.frozen?_alloc_at
theorem gH:type_of% @List.getElem?_eq_getElem:=@List.getElem?_eq_getElem
theorem gY:type_of% @List.filter_cons:=@List.filter_cons
theorem ix:type_of% @congrArg:=@congrArg
theorem iG:type_of% @List.append_nil:=@List.append_nil
theorem iP:type_of% @List.getElem?_append_left:=@List.getElem?_append_left
theorem iS:type_of% @Go.wpList_load_mid:=@Go.wpList_load_mid
theorem jb:type_of% @Nat.lt_or_ge:=@Nat.lt_or_ge
theorem jB:type_of% @Go.heap_alloc_old:=@Go.heap_alloc_old
theorem jF:type_of% @List.length_map:=@List.length_map
theorem kG:type_of% @List.pairwise_cons:=@List.pairwise_cons
theorem lN:type_of% @List.foldl_cons:=@List.foldl_cons
theorem lT:type_of% @List.flatten_cons:=@List.flatten_cons
theorem mU:type_of% @List.cons_append:=@List.cons_append
theorem nz:type_of% @Int.le_refl:=@Int.le_refl
theorem oS:type_of% @List.length_set:=@List.length_set
theorem oT:type_of% @List.map_append:=@List.map_append
theorem oU:type_of% @List.length_nil:=@List.length_nil
theorem oY:type_of% @Go.wp_store_mid:=@Go.wp_store_mid
theorem qj:type_of% @List.getElem?_append_right:=@List.getElem?_append_right
theorem q9:type_of% @Int.add_zero:=@Int.add_zero
theorem q_:type_of% @Array.all_toList:=@Array.all_toList
theorem ri:type_of% @Go.World.cell?_of_block:=@Go.World.cell?_of_block
theorem ss:type_of% @List.getElem_of_mem:=@List.getElem_of_mem
theorem vI:type_of% @List.take_add_one:=@List.take_add_one
theorem vJ:type_of% @Bool.not_false:=@Bool.not_false
theorem yz:type_of% @Go.wpAnyH_ready:=@Go.wpAnyH_ready
theorem AT:type_of% @Bool.not_true:=@Bool.not_true
theorem CL:type_of% @if_false:=@if_false
theorem CM:type_of% @List.pairwise_append:=@List.pairwise_append
theorem CN:type_of% @Go.RowKit.Below.heap_setCell:=@Go.RowKit.Below.heap_setCell
