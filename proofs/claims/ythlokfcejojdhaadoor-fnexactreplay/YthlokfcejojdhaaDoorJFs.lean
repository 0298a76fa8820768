/- errors.As by its contract, where the error's own type is the target's: a frameError, and a variable of that type. -/
import Derived.Test.YthlokfcejojdhaaDoorFrIs
import Derived.Laws.Rows
import Derived.Laws.Tables
import Derived.Laws.CopyOwn
import Derived.Test.YthlokfcejojdhaaDoorUfLaw
import Derived.Test.YthlokfcejojdhaaDoorFsMath
import Derived.Test.YthlokfcejojdhaaDoorHaBase
namespace Go.Proofs.YthlokfcejojdhaaDoor
open Go.RowKit Go.Extern.Stop Go.Stop Go.Extern
set_option linter.unusedVariables false

theorem asValueOf (t : Addr) (w : World) : (ReflectliteValue.unpack (.iface 98 (.pointer (some t)))).run Tryd.prog w
    = .ok (.agg #[.pointer (some ⟨3, 98, none⟩), .pointer (some ⟨w.heap.size, 0, none⟩), .int .u64 150]) (w.alloc (.cells #[.pointer (some t)] 98)) := by kernel_rfl

theorem asType (a : Addr) (w : World) : (ReflectliteValue.methodAny (ReflectliteValue.valueError "reflectlite.Value.Type" 0) (fun t _ _ _ => ReflectliteType.toType t) #[.agg #[.pointer (some ⟨3, 98, none⟩), .pointer (some a), .int .u64 150]]).run Tryd.prog w
    = .ok (.iface 141 (.agg #[.pointer (some ⟨3, 98, none⟩)])) w := by kernel_rfl

theorem asMethodKind (h : Value) (w : World) : (Go.method 286 141 (.agg #[h]) "Kind").run Tryd.prog w = .ok (100, h) w := by kernel_rfl

theorem asKindP (w : World) : ((ReflectliteType.abiMethod fun t => (fun a : Nat => Value.int IntKind.u8 (a : Int)) <$> Rtype.kind t) #[.pointer (some ⟨3, 98, none⟩)]).run Tryd.prog w = .ok (.int .u8 22) w := by kernel_rfl

theorem asKindS (w : World) : ((ReflectliteType.abiMethod fun t => (fun a : Nat => Value.int IntKind.u8 (a : Int)) <$> Rtype.kind t) #[.pointer (some ⟨3, 96, none⟩)]).run Tryd.prog w = .ok (.int .u8 25) w := by kernel_rfl

theorem asPartsP (a : Addr) (w : World) : (ReflectliteValue.parts (.agg #[.pointer (some ⟨3, 98, none⟩), .pointer (some a), .int .u64 150])).run Tryd.prog w = .ok (some (98, a, 150)) w := by kernel_rfl

theorem asIsNil (a p : Addr) (W : World) (ha : W.cell? a = some (.pointer (some p))) :
    (ReflectliteValue.method (ReflectliteValue.valueError "reflectlite.Value.IsNil" 0) ReflectliteValue.isNil #[.agg #[.pointer (some ⟨3, 98, none⟩), .pointer (some a), .int .u64 150]]).run Tryd.prog W = .ok (.bool false) W := by
  have e : ∀ (z : Sem Value) (f : TypeId → Addr → Nat → Nat → Sem Value) (v : Value), ReflectliteValue.method z f #[v] = (ReflectliteValue.parts v >>= fun p => _) := fun _ _ _ => rfl
  rw [e]
  simp only [Sem.run_bind, asPartsP, Result.andThen]
  simp [ReflectliteValue.isNil, loadVar, isAgg, underlying, Tryd.underlying98, ha, Result.andThen]

theorem asMethodElem (h : Value) (w : World) : (Go.method 286 141 (.agg #[h]) "Elem").run Tryd.prog w = .ok (118, .agg #[h]) w := by kernel_rfl

theorem asMethodImplements (h : Value) (w : World) : (Go.method 286 141 (.agg #[h]) "Implements").run Tryd.prog w = .ok (119, .agg #[h]) w := by kernel_rfl

theorem asMethodAssignableTo (h : Value) (w : World) : (Go.method 286 141 (.agg #[h]) "AssignableTo").run Tryd.prog w = .ok (116, .agg #[h]) w := by kernel_rfl

theorem asElem (w : World) : (ReflectliteType.method ReflectliteType.elem #[.agg #[.pointer (some ⟨3, 98, none⟩)]]).run Tryd.prog w = .ok (.iface 141 (.agg #[.pointer (some ⟨3, 96, none⟩)])) w := by kernel_rfl

theorem asImplements (w : World) : (ReflectliteType.relation "Implements" ReflectliteType.implements_ #[.agg #[.pointer (some ⟨3, 96, none⟩)], .iface 141 (.agg #[.pointer (some ⟨3, 51, none⟩)])]).run Tryd.prog w = .ok (.bool true) w := by kernel_rfl

theorem asTypeOf (v : Value) (w : World) : (ReflectliteType.typeOf #[.iface 96 v]).run Tryd.prog w = .ok (.iface 141 (.agg #[.pointer (some ⟨3, 96, none⟩)])) w := by kernel_rfl

theorem asAssignable (w : World) : (ReflectliteType.relation "AssignableTo" ReflectliteType.assignableTo #[.agg #[.pointer (some ⟨3, 96, none⟩)], .iface 141 (.agg #[.pointer (some ⟨3, 96, none⟩)])]).run Tryd.prog w = .ok (.bool true) w := by kernel_rfl

theorem asValueOfS (x y : Value) (w : World) : (ReflectliteValue.unpack (.iface 96 (.agg #[x, y]))).run Tryd.prog w
    = .ok (.agg #[.pointer (some ⟨3, 96, none⟩), .pointer (some ⟨w.heap.size, 0, none⟩), .int .u64 153]) (w.alloc (.cells #[x, y] 96)) := by kernel_rfl

theorem asElemOf (w : World) : (Rtype.elem? 98).run Tryd.prog w = .ok (some 96) w := by kernel_rfl

theorem asMk (p : Addr) (w : World) : (ReflectliteValue.mk 96 p ReflectliteValue.flagAddr).run Tryd.prog w = .ok (.agg #[.pointer (some ⟨3, 96, none⟩), .pointer (some p), .int .u64 409]) w := by kernel_rfl

theorem asElemV (a p : Addr) (W : World) (ha : W.cell? a = some (.pointer (some p))) :
    (ReflectliteValue.method (ReflectliteValue.valueError "reflectlite.Value.Elem" 0) ReflectliteValue.elem #[.agg #[.pointer (some ⟨3, 98, none⟩), .pointer (some a), .int .u64 150]]).run Tryd.prog W
      = .ok (.agg #[.pointer (some ⟨3, 96, none⟩), .pointer (some p), .int .u64 409]) W := by
  have e : ∀ (z : Sem Value) (f : TypeId → Addr → Nat → Nat → Sem Value) (v : Value), ReflectliteValue.method z f #[v] = (ReflectliteValue.parts v >>= fun p => _) := fun _ _ _ => rfl
  rw [e]
  simp only [Sem.run_bind, asPartsP, Result.andThen]
  simp [ReflectliteValue.elem, loadVar, isAgg, underlying, Tryd.underlying98, ha, Result.andThen, asElemOf, asMk]

theorem asPartsA (a : Addr) (w : World) : (ReflectliteValue.parts (.agg #[.pointer (some ⟨3, 96, none⟩), .pointer (some a), .int .u64 409])).run Tryd.prog w = .ok (some (96, a, 409)) w := by kernel_rfl

theorem asPartsS (a : Addr) (w : World) : (ReflectliteValue.parts (.agg #[.pointer (some ⟨3, 96, none⟩), .pointer (some a), .int .u64 153])).run Tryd.prog w = .ok (some (96, a, 153)) w := by kernel_rfl

theorem asDirect (w : World) : (Rtype.directlyAssignable 96 96).run Tryd.prog w = .ok true w := by kernel_rfl

theorem asInfo : (Tryd.prog.info? 96).map (·.size) = some 2 := by kernel_rfl

theorem asSet (tb b : Nat) (x y : Value) (old : Array Value) (W : World) (hb : W.heap[b]? = some (.cells #[x, y] 96 (0, 0))) (ht : W.heap[tb]? = some (.cells old 96 (0, 0))) (ho : old.size = 2) (h1 : #[x, y].all (·.oneCell') = true) :
    (ReflectliteValue.set #[.agg #[.pointer (some ⟨3, 96, none⟩), .pointer (some ⟨tb, 0, none⟩), .int .u64 409], .agg #[.pointer (some ⟨3, 96, none⟩), .pointer (some ⟨b, 0, none⟩), .int .u64 153]]).run Tryd.prog W
      = .ok (.tuple #[]) (W.setRow tb #[x, y]) := by
  have hl := run_loadVar_row (P := Tryd.prog) W b 96 96 #[x, y] (0, 0) _ hb Tryd.underlying96 rfl asInfo
  have hs := run_storeVar_row (P := Tryd.prog) W tb 96 96 old #[x, y] ht asInfo ho h1
  have e : ∀ (v z : Value), ReflectliteValue.set #[v, z] = (ReflectliteValue.parts v >>= fun p => ReflectliteValue.parts z >>= fun q => _) := fun _ _ => rfl
  rw [e]
  simp only [Sem.run_bind, asPartsA, asPartsS, Result.andThen]
  simp [ReflectliteValue.flagAddr, hl, Result.andThen, asDirect, hs]

end Go.Proofs.YthlokfcejojdhaaDoor

/- errors.As by its contract: the walk. -/
namespace Go.Proofs.YthlokfcejojdhaaDoor
open Go.RowKit Go.Extern.Stop Go.Stop Go.Extern
set_option linter.unusedVariables false

theorem heap_old {w : World} {k : Nat} {o x : Obj} (h : w.heap[k]? = some x) : (w.alloc o).heap[k]? = some x := by
  have hlt : k < w.heap.size := by
    rcases Nat.lt_or_ge k w.heap.size with h' | h'
    · exact h'
    · simp [Array.getElem?_eq_none h'] at h
  show (w.heap.push o)[k]? = _
  simp only [Array.getElem?_push, Nat.ne_of_lt hlt, if_false]
  exact h

theorem heap_top (w : World) (o : Obj) : (w.alloc o).heap[w.heap.size]? = some o := by
  show (w.heap.push o)[w.heap.size]? = _
  simp

theorem cell_old {w : World} {o : Obj} {a : Addr} {v : Value} (h : w.cell? a = some v) : (w.alloc o).cell? a = some v := by
  have hlt : a.block < w.heap.size := by
    rcases Nat.lt_or_ge a.block w.heap.size with h' | h'
    · exact h'
    · simp [World.cell?, Array.getElem?_eq_none h'] at h
  rw [World.cell?_alloc_lt _ _ a hlt]; exact h

/-- The world behind errors.As. -/
def asW (w : World) (tb : Nat) (x y : Value) : World :=
  ((((w.alloc (.cells #[.pointer (some ⟨tb, 0, none⟩)] 98)).alloc (.cells #[.pointer (some ⟨3, 98, none⟩), .pointer (some ⟨w.heap.size, 0, none⟩), .int .u64 150] 123)).alloc (.cells #[.pointer (some ⟨3, 98, none⟩), .pointer (some ⟨w.heap.size, 0, none⟩), .int .u64 150] 123)).alloc (.cells #[x, y] 96)).setRow tb #[x, y]

set_option maxRecDepth 40000 in
set_option maxHeartbeats 4000000 in
theorem as_hit (a : Addr) (n : Int) (tb : Nat) (old : Array Value) (w : World) (hg : w.cell? ⟨0, 0, none⟩ = some (.iface 141 (.agg #[.pointer (some ⟨3, 51, none⟩)])))
    (ht : w.heap[tb]? = some (.cells old 96 (0, 0))) (ho : old.size = 2) :
    Calls Tryd.prog 49 #[fe a n, .iface 98 (.pointer (some ⟨tb, 0, none⟩))] w fun ev w' => ev = .returned (.bool true) ∧ w' = asW w tb (.iface 155 (.pointer (some a))) (.int .i64 n) := by
  unfold fe
  generalize hx : Value.iface 155 (.pointer (some a)) = x
  have h6 := @run_callFunc_extern Tryd.prog 69 _ (fun args => ReflectliteValue.unpack (args.getD 0 (.tuple #[]))) Tryd.func69 (by kernel_rfl) (by kernel_rfl) (by kernel_rfl) (by kernel_rfl)
  have h7 := @run_callFunc_extern Tryd.prog 70 _ (ReflectliteValue.methodAny (ReflectliteValue.valueError "reflectlite.Value.Type" 0) (fun t _ _ _ => ReflectliteType.toType t)) Tryd.func70 (by kernel_rfl) (by kernel_rfl) (by kernel_rfl) (by kernel_rfl)
  have h8 := @run_callFunc_extern Tryd.prog 71 _ (ReflectliteValue.method (ReflectliteValue.valueError "reflectlite.Value.IsNil" 0) ReflectliteValue.isNil) Tryd.func71 (by kernel_rfl) (by kernel_rfl) (by kernel_rfl) (by kernel_rfl)
  have h27 := @run_callFunc_extern Tryd.prog 100 _ (ReflectliteType.abiMethod fun t => do pure (.int .u8 (← Rtype.kind t))) Tryd.func100 (by kernel_rfl) (by kernel_rfl) (by kernel_rfl) (by kernel_rfl)
  have h37 := @run_callFunc_extern Tryd.prog 118 _ (ReflectliteType.method ReflectliteType.elem) Tryd.func118 (by kernel_rfl) (by kernel_rfl) (by kernel_rfl) (by kernel_rfl)
  have h38 := @run_callFunc_extern Tryd.prog 119 _ (ReflectliteType.relation "Implements" ReflectliteType.implements_) Tryd.func119 (by kernel_rfl) (by kernel_rfl) (by kernel_rfl) (by kernel_rfl)
  have h10 := @run_callFunc_extern Tryd.prog 81 _ ReflectliteType.typeOf Tryd.func81 (by kernel_rfl) (by kernel_rfl) (by kernel_rfl) (by kernel_rfl)
  have h35 := @run_callFunc_extern Tryd.prog 116 _ (ReflectliteType.relation "AssignableTo" ReflectliteType.assignableTo) Tryd.func116 (by kernel_rfl) (by kernel_rfl) (by kernel_rfl) (by kernel_rfl)
  have h11 := @run_callFunc_extern Tryd.prog 82 _ (ReflectliteValue.method (ReflectliteValue.valueError "reflectlite.Value.Elem" 0) ReflectliteValue.elem) Tryd.func82 (by kernel_rfl) (by kernel_rfl) (by kernel_rfl) (by kernel_rfl)
  have h12 := @run_callFunc_extern Tryd.prog 83 _ ReflectliteValue.set Tryd.func83 (by kernel_rfl) (by kernel_rfl) (by kernel_rfl) (by kernel_rfl)
  have tO := asTypeOf
  have mA := asMethodAssignableTo
  have a25 := asAssignable
  have v25 := asValueOfS
  have f6 := asValueOf
  have f7 := asType
  have mK := asMethodKind
  have mE := asMethodElem
  have mI := asMethodImplements
  have k27 := asKindP
  have k25 := asKindS
  have e27 := asElem
  have i25 := asImplements
  have HWr : Hid (asW w tb x (.int .i64 n) = ((((w.alloc (.cells #[.pointer (some ⟨tb, 0, none⟩)] 98)).alloc (.cells #[.pointer (some ⟨3, 98, none⟩), .pointer (some ⟨w.heap.size, 0, none⟩), .int .u64 150] 123)).alloc (.cells #[.pointer (some ⟨3, 98, none⟩), .pointer (some ⟨w.heap.size, 0, none⟩), .int .u64 150] 123)).alloc (.cells #[x, .int .i64 n] 96)).setRow tb #[x, .int .i64 n]) := rfl
  have n8 := asIsNil ⟨w.heap.size, 0, none⟩ ⟨tb, 0, none⟩ ((w.alloc (.cells #[.pointer (some ⟨tb, 0, none⟩)] 98)).alloc (.cells #[.pointer (some ⟨3, 98, none⟩), .pointer (some ⟨w.heap.size, 0, none⟩), .int .u64 150] 123)) (by simp)
  have hg2 : ((w.alloc (.cells #[.pointer (some ⟨tb, 0, none⟩)] 98)).alloc (.cells #[.pointer (some ⟨3, 98, none⟩), .pointer (some ⟨w.heap.size, 0, none⟩), .int .u64 150] 123)).cell? ⟨0, 0, none⟩ = some (.iface 141 (.agg #[.pointer (some ⟨3, 51, none⟩)])) := cell_old (cell_old hg)
  have el := asElemV ⟨w.heap.size, 0, none⟩ ⟨tb, 0, none⟩ (((w.alloc (.cells #[.pointer (some ⟨tb, 0, none⟩)] 98)).alloc (.cells #[.pointer (some ⟨3, 98, none⟩), .pointer (some ⟨w.heap.size, 0, none⟩), .int .u64 150] 123)).alloc (.cells #[.pointer (some ⟨3, 98, none⟩), .pointer (some ⟨w.heap.size, 0, none⟩), .int .u64 150] 123)) (by rw [World.cell?_alloc_lt _ _ ⟨w.heap.size, 0, none⟩ (by simp; omega)]; simp)
  have st := asSet tb (w.heap.size + 1 + 1 + 1) x (.int .i64 n) old ((((w.alloc (.cells #[.pointer (some ⟨tb, 0, none⟩)] 98)).alloc (.cells #[.pointer (some ⟨3, 98, none⟩), .pointer (some ⟨w.heap.size, 0, none⟩), .int .u64 150] 123)).alloc (.cells #[.pointer (some ⟨3, 98, none⟩), .pointer (some ⟨w.heap.size, 0, none⟩), .int .u64 150] 123)).alloc (.cells #[x, .int .i64 n] 96))
    (by have := heap_top (((w.alloc (.cells #[.pointer (some ⟨tb, 0, none⟩)] 98)).alloc (.cells #[.pointer (some ⟨3, 98, none⟩), .pointer (some ⟨w.heap.size, 0, none⟩), .int .u64 150] 123)).alloc (.cells #[.pointer (some ⟨3, 98, none⟩), .pointer (some ⟨w.heap.size, 0, none⟩), .int .u64 150] 123)) (.cells #[x, .int .i64 n] 96)
        simpa using this)
    (heap_old (heap_old (heap_old (heap_old ht)))) ho (by rw [← hx]; simp [Value.oneCell'])
  clear hg ht hx
  go_enter Tryd.func49, Tryd.ntmps49
  go_wp2
  refine wp_loop_rounds 1 ?_
  rw [rounds_succ]
  go_wp2
  go_ret
  exact ⟨rfl, HWr.out.symm⟩

end Go.Proofs.YthlokfcejojdhaaDoor

/- The walks of the two that read all frames. -/
namespace Go.Proofs.YthlokfcejojdhaaDoor
open Go.RowKit
set_option linter.unusedVariables false

theorem infoS : (Tryd.prog.info? 9).map (fun i => (i.zero, i.size, i.bytes)) = some (some (.string ⟨#[]⟩), 1, 16) := by kernel_rfl

/-- A row of texts of the call's own. -/
def OwnS (w : World) (base : Nat) (v : Value) (L : List ByteArray) : Prop := w.ownsRow base 9 1 v L.length (L.map Value.string)

theorem OwnS.keep {w w' : World} {base : Nat} {v : Value} {L : List ByteArray} (h : OwnS w base v L) (hb : Below w.heap.size w w') : OwnS w' base v L := own_bel h hb (Nat.le_refl _)

theorem OwnS.low {w : World} {base base' : Nat} {v : Value} {L : List ByteArray} (h : OwnS w base v L) (hb : base' ≤ base) : OwnS w base' v L := by
  obtain ⟨h1, h2⟩ := h
  refine ⟨h1, ?_⟩
  rcases h2 with h2 | ⟨g, cap, cur, hv, hg, r⟩
  · exact Or.inl h2
  · exact Or.inr ⟨g, cap, cur, hv, Nat.le_trans hb hg, r⟩

theorem own_snocS {w : World} {base : Nat} {v : Value} {acc : List ByteArray} {y : ByteArray} (h : w.ownsRow base 9 1 v (acc.length + 1) (acc.map Value.string ++ [.string y])) : OwnS w base v (acc ++ [y]) := by
  unfold OwnS
  simpa using h

/-- What a reader of all frames hands back. -/
def FsR (s : ByteArray) (w : World) (e : Ending) (w' : World) : Prop :=
  ∃ v L, ∃ k : Nat, e = .returned (.tuple #[v, .int .i64 (k : Int)]) ∧ Frs s L k ∧ OwnS w' w.heap.size v L ∧ Below w.heap.size w w'

set_option maxRecDepth 20000 in
set_option maxHeartbeats 2000000 in
theorem specFs (s : ByteArray) (w : World) (hm : s.size ≤ 1048576) :
    Calls Tryd.prog 30 #[.string s] w (FsR s w) := by
  obtain ⟨i0, hi, hz0, hz1, hz2⟩ := info_parts infoS
  have HX : Hid (s.size ≤ maxLen) := by show _ ≤ _; unfold maxLen; omega
  have hml : (1048577 : Nat) ≤ maxLen := by unfold maxLen; omega
  go_enter Tryd.func30, Tryd.ntmps30
  go_wp2
  go_loopw [4, 5] (fun v kv wr => ∃ (acc : List ByteArray) (k : Nat), kv = .int .i64 (k : Int) ∧ k ≤ s.size ∧ acc.length ≤ k ∧ wr.ownsRow w.heap.size 9 1 v acc.length (acc.map Value.string) ∧ Below w.heap.size w wr ∧ Hid (UptoF s k acc)) (fun _ kv _ => s.size - (intOf kv).toNat)
  case atStart => exact ⟨[], 0, rfl, Nat.zero_le _, Nat.zero_le _, World.ownsRow_made w _ 0 (Nat.le_refl _) (by decide) (by simp), (Below.refl _ _).alloc (Nat.le_refl _) _, upto_zero s (ext_all s)⟩
  case round =>
    obtain ⟨acc, k, rfl, hk, hal, hown, hbel, HU⟩ := hrel
    have hsz := hbel.size
    by_cases hlt : k < s.size
    · have hlt' : (k : Int) < s.size := by omega
      have hk' : (k : Int) ≤ s.size := by omega
      obtain ⟨T, hT⟩ : ∃ T, s.extract k s.size = T := ⟨_, rfl⟩
      have HT : Hid (s.extract k s.size = T) := hT
      have HTm : Hid (T.size ≤ maxLen) := by show _ ≤ _; have := HX.out; rw [← hT]; simp; omega
      rcases u_cases T with h | h | ⟨n, h⟩
      · have HF : Hid (Frs s acc k) := upto_end HU.out (by rw [hT]; exact Or.inl h)
        have H : Hid (UShort T) := h
        clear h HU
        go_wp2_with fail
        refine (specUn_short T _ HTm.out H.out).mono ?_
        rintro e w1 ⟨rfl, hw⟩
        replace hw := hw.symm
        subst hw
        go_wp2
        go_ret2
        exact ⟨_, acc, k, rfl, HF.out, hown, hbel⟩
      · have HF : Hid (Frs s acc k) := upto_end HU.out (by rw [hT]; exact Or.inr h)
        have H : Hid (UBad T) := h
        clear h HU
        go_wp2_with fail
        refine (specUn_bad T _ HTm.out H.out).mono ?_
        rintro e w1 ⟨rfl, b1⟩
        have hown1 := own_bel hown b1 (Nat.le_refl _)
        have hbel1 := hbel.trans (b1.mono hsz)
        clear hown hbel b1
        go_wp2
        go_ret2
        exact ⟨_, acc, k, rfl, HF.out, hown1, hbel1⟩
      · have HF : Hid (UptoF s (k + (8 + n)) (acc ++ [T.extract 8 (8 + n)])) := by have := upto_more hk HU.out (by rw [hT]; exact h); rw [hT] at this; exact this
        have hle : k + (8 + n) ≤ s.size := ok_le hk (by rw [hT]; exact h)
        have H : Hid (UOk T n) := h
        clear h HU
        go_wp2_with fail
        refine (specUn_ok T n _ HTm.out H.out).mono ?_
        rintro e w1 ⟨rfl, b1⟩
        have hown1 := own_bel hown b1 (Nat.le_refl _)
        have hbel1 := hbel.trans (b1.mono hsz)
        have hsz1 := hbel1.size
        clear hown hbel b1
        generalize T.extract 8 (8 + n) = Y at HF ⊢
        go_wp2_with (at_builtin; refine wpList_append_own _ rfl _ _ 64 rfl w.heap.size 9 i0 (.string ⟨#[]⟩) 1 16 Tryd.underlying64 hi hz0 hz1 hz2 rfl (by decide) _ _ _ rfl (hown1.alloc _) ⟨w1.heap.size, 0, none⟩ 1 1 [.string Y] rfl rfl (cell_one_new _ _ _) (by intro u hu; simp at hu; subst hu; rfl) (by omega) (by omega) (by simp; omega) ?_)
        intro v' w2 hown2 hgrow _
        have R1 := own_snocS hown2
        unfold OwnS at R1
        have R2 := below_append hbel1 (Nat.le_refl _) hown1 hgrow
        clear hown2 hgrow hown1 hbel1
        go_wp2
        go_roundw
        case rel => first | exact ⟨acc ++ [Y], k + (8 + n), by go_num, hle, by simp; omega, R1, R2, HF⟩ | ((repeat apply Exists.intro); exact ⟨⟨acc ++ [Y], k + (8 + n), by go_num, hle, by simp; omega, R1, R2, HF⟩, rfl⟩)
        case measure => simp [intOf]; omega
    · have hke : k = s.size := by omega
      have HF : Hid (Frs s acc k) := upto_end HU.out (by rw [hke]; exact Or.inl (short_end s))
      clear HU
      subst hke
      go_wp2
      go_ret2
      exact ⟨_, acc, _, rfl, HF.out, hown, hbel⟩

end Go.Proofs.YthlokfcejojdhaaDoor
