/- Nothing is laid here at this seat. -/
import Derived.Test.YtjbdldbjefmnjaaGreatDoorChecked
namespace Go.Proofs.YtjbdldbjefmnjaaGreatDoor
end Go.Proofs.YtjbdldbjefmnjaaGreatDoor
