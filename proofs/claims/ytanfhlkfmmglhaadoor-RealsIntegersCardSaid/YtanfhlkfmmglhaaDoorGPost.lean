/- What a law's row asks at the end, where a call has left all that was as it was. No condition. -/
import Derived.Test.YtanfhlkfmmglhaaDoorGTab
import Derived.ChangeSame
namespace Go.Proofs.YtanfhlkfmmglhaaDoor
open Go.ChangeShapes Go.WideShapes Go.ChangeAt Go.RowKit

theorem post_kept {H : Type} {enc : TypeId × Value → H} {P : Program} {f : Func} {s : ChangeSpec} {apart fresh handsOn again : Bool} {W W' : World} {args : Array Value} {v : Value} {ds gs : List (DataW H)} {qs rs : List MemPlace}
    (whole : DataW.Whole enc P f.params.toList s.vars apart W args.toList ds gs (qs ++ rs)) (B : Below W.heap.size W W')
    (R : ∀ (b : Nat) (sp : Nat → Bool) (hd : Bool), DataW.TrodAll enc P W' b sp hd f.resultTypes.toList (v.resultList f.resultTypes.size) (s.fn H (ds ++ gs)).results [])
    (A : ∀ sp : Nat → Bool, (∀ p ∈ qs ++ rs, sp p.block = true) → DataW.TrodAll enc P W' 0 sp true f.params.toList args.toList (s.fn H (ds ++ gs)).args qs)
    (V : ∀ sp : Nat → Bool, (∀ p ∈ qs ++ rs, sp p.block = true) → DataW.TrodVars enc P W' sp s.vars (s.fn H (ds ++ gs)).vars rs)
    (O : ∀ (j : Nat) (t : TypeId) (r : Value), f.resultTypes[j]? = some t → (v.resultList f.resultTypes.size)[j]? = some r → Value.okWide P W' .any 0 t r) :
    s.post enc P f apart fresh handsOn again W args v W' := by
  have below : ∀ p ∈ qs ++ rs, p.block < W.heap.size := fun p hp => whole.lt p hp
  have spare : ∀ p ∈ qs ++ rs, (fun b => decide (b < W.heap.size)) p.block = true := fun p hp => decide_eq_true (below p hp)
  have marks : ∀ b off, MemPlace.cell b off ∈ qs ++ rs → W'.frozen? ⟨b, off, none⟩ = W.frozen? ⟨b, off, none⟩ := fun b off hp => B.frozen (below _ hp)
  refine ⟨ds, gs, qs ++ rs, [], qs, rs, whole, R _ _ _, A _ spare, V _ spare, World.keptBut_mono (fun p hp => ⟨hp, Or.inr (List.mem_append.1 hp)⟩) (B.frame (· ∈ qs ++ rs)), fun _ => ⟨O, _, _, ([] ++ qs) ++ rs, ⟨[] ++ qs, rs, trodAll_append (A _ (fun _ _ => rfl)) (R _ _ _), V _ (fun _ _ => rfl), rfl, ?_, ?_⟩, fun p hp _ => by simpa using hp⟩⟩
  · intro b off hp
    have hp' : MemPlace.cell b off ∈ qs ++ rs := by simpa using hp
    obtain ⟨_, _, _, _, _, fz, _⟩ := whole
    exact (marks b off hp').trans (fz b off hp')
  · intro ha
    obtain ⟨_, _, _, _, _, _, nd⟩ := whole
    simpa using nd ha
end Go.Proofs.YtanfhlkfmmglhaaDoor
