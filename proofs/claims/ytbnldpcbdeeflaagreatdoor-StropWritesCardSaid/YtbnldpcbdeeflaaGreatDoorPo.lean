/- What the laws of this layer start from and end with. Condition: the row's own list of package-level variables. -/
import Derived.Test.YtbnldpcbdeeflaaGreatDoorLb
import Derived.Test.YtbnldpcbdeeflaaGreatDoorCards
import Derived.Test.YtbnldpcbdeeflaaGreatDoorTie
import Derived.OpenShut
import Derived.Lib.LaidU8
import Derived.Shelf.Vars
import Derived.ChangeMaps5
import Derived.Deep.DeepHandedRow
import Derived.ChangeSame
namespace Go.Proofs.YtbnldpcbdeeflaaGreatDoor
open Go.ChangeShapes Go.WideShapes Go.ChangeAt Go.RowKit

theorem post_kept {H : Type} {enc : TypeId × Value → H} {P : Program} {f : Func} {s : ChangeSpec} {apart fresh handsOn again : Bool} {W W' : World} {args : Array Value} {v : Value} {ds gs : List (DataW H)} {qs rs : List MemPlace}
    (whole : DataW.Whole enc P f.params.toList s.vars apart W args.toList ds gs (qs ++ rs)) (B : Below W.heap.size W W')
    (R : ∀ (b : Nat) (sp : Nat → Bool) (hd : Bool), DataW.TrodAll enc P W' b sp hd f.resultTypes.toList (v.resultList f.resultTypes.size) (s.fn H (ds ++ gs)).results [])
    (A : ∀ sp : Nat → Bool, (∀ p ∈ qs ++ rs, sp p.block = true) → DataW.TrodAll enc P W' 0 sp true f.params.toList args.toList (s.fn H (ds ++ gs)).args qs)
    (V : ∀ sp : Nat → Bool, (∀ p ∈ qs ++ rs, sp p.block = true) → DataW.TrodVars enc P W' sp s.vars (s.fn H (ds ++ gs)).vars rs)
    (O : ∀ (j : Nat) (t : TypeId) (r : Value), f.resultTypes[j]? = some t → (v.resultList f.resultTypes.size)[j]? = some r → Value.okWide P W' .any 0 t r) :
    s.post enc P f apart fresh handsOn again W args v W' := by
  have below : ∀ p ∈ qs ++ rs, p.block < W.heap.size := fun p hp => whole.lt p hp
  have spare : ∀ p ∈ qs ++ rs, (fun b => decide (b < W.heap.size)) p.block = true := fun p hp => decide_eq_true (below p hp)
  have marks : ∀ b off, MemPlace.cell b off ∈ qs ++ rs → W'.frozen? ⟨b, off, none⟩ = W.frozen? ⟨b, off, none⟩ := fun b off hp => B.frozen (below _ hp)
  refine ⟨ds, gs, qs ++ rs, [], qs, rs, whole, R _ _ _, A _ spare, V _ spare, World.keptBut_mono (fun p hp => ⟨hp, Or.inr (List.mem_append.1 hp)⟩) (B.frame (· ∈ qs ++ rs)), fun _ => ⟨O, _, _, ([] ++ qs) ++ rs, ⟨[] ++ qs, rs, trodAll_append (A _ (fun _ _ => rfl)) (R _ _ _), V _ (fun _ _ => rfl), rfl, ?_, ?_⟩, fun p hp _ => by simpa using hp⟩⟩
  · intro b off hp
    have hp' : MemPlace.cell b off ∈ qs ++ rs := by simpa using hp
    obtain ⟨_, _, _, _, _, fz, _⟩ := whole
    exact (marks b off hp').trans (fz b off hp')
  · intro ha
    obtain ⟨_, _, _, _, _, _, nd⟩ := whole
    simpa using nd ha

theorem lay_own : ownKnob Tryz.prog.godebug = none := by kernel_rfl
/-- An array of strings that reads as a list holds the list's strings. -/
theorem cells_of_strs {H : Type} {enc : TypeId × Value → H} {P : Program} {w : World} {base : Nat} {sp : Nat → Bool} {held : Bool} {fuel : Nat} {t e : TypeId} {n : Nat} {cs : List Value} {zs : List (List UInt8)} {p : List MemPlace}
    (ht : P.underlying t = some (.array n e)) (he : P.underlying e = some .string) (hce : P.cellsOf e = 1) (hct : P.cellsOf t = n)
    (h : DataW.trod enc P w base sp held fuel t cs = some (.agg (zs.map fun z => .lit (.string z)), p)) : ∀ i, i < n → ∃ s : ByteArray, cs[i]? = some (.string s) ∧ zs[i]? = some s.data.toList := by
  obtain ⟨xs, m, _, hx, hl, hn, hi⟩ := DataW.trod_array ht h
  intro i hlt
  have h1 := hi i hlt
  rw [hce, Nat.mul_one] at h1
  have hxs : xs.map (·.1) = zs.map fun z => (DataW.lit (.string z) : DataW H) := by
    have := congrArg Prod.fst hx
    simpa using this.symm
  have hxi : xs[i]? = some xs[i] := List.getElem?_eq_getElem (by omega)
  rw [hxi] at h1
  obtain ⟨s, hs, hxe, _⟩ := DataW.trod_string he h1
  refine ⟨s, ?_, ?_⟩
  · have := congrArg (·[0]?) hs
    simpa [List.getElem?_take, List.getElem?_drop] using this
  · have h2 := congrArg (·[i]?) hxs
    simp only [List.getElem?_map, hxi, Option.map_some] at h2
    rw [hxe] at h2
    cases hz : zs[i]? with
    | none => rw [hz] at h2; simp at h2
    | some z =>
      rw [hz] at h2
      simp at h2
      rw [h2]
theorem sg_data : (Rows.laid_environ_strop_signs : DataW Unit) = .agg (sgs.map fun z => .lit (.string z)) := by kernel_rfl
theorem sg_name : Tryz.prog.globalNamed "environ/strop.signs" = some 0 := by kernel_rfl
theorem sg_type : (Tryz.prog.globals[0]?).map (·.type) = some 96 := by kernel_rfl
theorem sg_cells : Tryz.prog.cellsOf 96 = 38 := by kernel_rfl
theorem st_cells : Tryz.prog.cellsOf 9 = 1 := by kernel_rfl
theorem Sg.of_reads {w : World} (h : Lib.VarReads Tryz.prog w "environ/strop.signs" Rows.laid_environ_strop_signs) : Sg w := by
  obtain ⟨g, t, cs, fuel, p, hg, ht, hvar, hd⟩ := h
  obtain rfl := Option.some.inj (sg_name.symm.trans hg)
  obtain rfl := Option.some.inj (sg_type.symm.trans ht)
  rw [sg_data] at hd
  have hc := cells_of_strs Tryz.underlying96 Tryz.underlying9 st_cells sg_cells hd
  intro i hi
  obtain ⟨s, h1, h2⟩ := hc i hi
  have h3 := World.var?_cell sg_name hvar i
  rw [h3, ← Array.getElem?_toList, h1, List.getD_eq_getElem?_getD, h2]
  exact congrArg some (congrArg Value.string (bytes_inj rfl))
theorem Mx.of_shaped {w : World} (h : w.ShapedOpen Tryz.prog) : Mx w :=
  Go.Proofs.cell_of_shapedOpen_int (g := 1) (t := 3) (zero := #[.int .i64 0]) h (by decide +kernel) (by kernel_rfl) rfl (by kernel_rfl) (by kernel_rfl) Tryz.underlying3
theorem Wo.of {w : World} (h : w.ShapedOpen Tryz.prog) (hl : Lib.VarReads Tryz.prog w "environ/strop.signs" Rows.laid_environ_strop_signs) : Wo w := by
  have hM := Mx.of_shaped h
  have hG := Sg.of_reads hl
  exact ⟨hM, hG, cell_lt (hG 0 (by decide)), hM.lt⟩
end Go.Proofs.YtbnldpcbdeeflaaGreatDoor
