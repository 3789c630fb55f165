/- Vehicles: which ones chain's Check takes. -/
import Derived.Test.YtdehnokcjnbjoaaVeh
namespace Go.Proofs.Ytdehnokcjnbjoaa
open Go.RowKit Go.Proofs.Gn
def hdK : List Unt → Int
  | [] => 0
  | u :: _ => u.kd
def auV (us : List Unt) : Bool := us.all okU && (decide (0 < us.length) && decide (hdK us = 0))
def bigU (u : Unt) : Bool := decide (24 < u.xs.length)
def tmV (us : List Unt) : Bool := decide (12 < us.length) || us.any bigU
theorem hdK_get {us : List Unt} (h : 0 < us.length) : hdK us = us[0].kd := by
  cases us with
  | nil => simp at h
  | cons u l => rfl
/-- Which error a vehicle has. -/
def veE (s : ByteArray) (us : List Unt) (f t : Int) : Int := if tmV us = true then 6 else if nmS s && (auV us && (win f 0 t && decide (t < us.length))) then 0 else 2
end Go.Proofs.Ytdehnokcjnbjoaa
